/-
  Looks that are weighed, of the model. No condition.
-/
import Derived.Test.YthgnlpeogdockaaWgI
namespace Go.Proofs.Ythgnlpeogdockaa
open Go.RowKit

theorem sAreK0 (a : Option Addr) (cap : Nat) (w : World) :
    Calls Try.prog 34 #[.slice a 0 cap] w fun e w' => e = .returned (.bool true) ∧ w' = w := by
  go_enter Try.func34, Try.ntmps34
  go_wp2
  go_loopw [3] (fun i wr => i = .int .i64 0 ∧ wr = w) (fun i _ => 0)
  case atStart => exact ⟨rfl, rfl⟩
  case round =>
    obtain ⟨rfl, rfl⟩ := hrel
    go_wp2
    go_ret
    exact ⟨rfl, rfl⟩

theorem orow_below {w w' : World} {base : Nat} {e : TypeId} {size : Nat} {v : Value} {n : Nat} {xs : List Value} (h : w.ownsRow base e size v n xs) (hb : Below w.heap.size w w') : w'.ownsRow base e size v n xs := by
  obtain ⟨h1, h2 | ⟨g, cap, cur, h2, h3, h4, h5⟩⟩ := h
  · exact ⟨h1, .inl h2⟩
  · refine ⟨h1, .inr ⟨g, cap, cur, h2, h3, ?_, h5⟩⟩
    rw [hb.block g ?_]; exact h4
    rcases Nat.lt_or_ge g w.heap.size with h | h
    · exact h
    · rw [Array.getElem?_eq_none h] at h4; cases h4
theorem cell_of_block {w : World} {g k : Nat} {cs : Array Value} {e : TypeId} {v : Value} (h : w.heap[g]? = some (.cells cs e (0, 0))) (hk : cs[k]? = some v) : w.cell? ⟨g, k, none⟩ = some v := by
  simp [World.cell?, h, hk]
theorem news (w : World) (B : Nat) (cs : Array Value) (e : TypeId) (hB : B = w.heap.size) : ∀ i u, cs.toList[i]? = some u → (w.alloc (.cells cs e)).cell? ((⟨B, 0, none⟩ : Addr).add i) = some u := by
  intro i u h
  subst hB
  rw [add0]
  exact cell_of_block (heap_alloc_new w _) (by simpa using h)

/-- A row of the call's own of n looks, as cells. -/
theorem own_of_row {w : World} {base g n cap : Nat} {r : Nat → Nat} {e : TypeId} (h : w.ownsRow base e 5 (.slice (some ⟨g, 0, none⟩) n cap) n ((List.range (5 * n)).map (wordV r))) : Own w g (5 * n) (wordV r) := by
  have hlt := h.lt g rfl
  refine ⟨hlt.2, fun i hi => ?_, fun i => h.frozenAt i⟩
  have h1 := h.cells (g := g) rfl i (wordV r i) (by simp [hi])
  rw [add0] at h1
  exact h1

theorem range5 (g : Nat → Value) (k : Nat) : (List.range (5 * (k + 1))).map g = (List.range (5 * k)).map g ++ [g (5 * k), g (5 * k + 1), g (5 * k + 2), g (5 * k + 3), g (5 * k + 4)] := by
  rw [show 5 * (k + 1) = 5 * k + 1 + 1 + 1 + 1 + 1 by omega]
  simp [List.range_succ]

set_option maxHeartbeats 3200000 in
theorem sWeigh (b off n cap : Nat) (f : Nat → Nat) (v : Nat → Option Nat) {x : Nat} {y : Option Nat} (ix : Is .f32 x y) (w : World) (hn : n ≤ 1048576) (hb : b < w.heap.size) (hr : ∀ i, i < 5 * n → w.cell? ⟨b, off + i, none⟩ = some (.float .f32 (f i))) (hv : ∀ i, i < 5 * n → Is .f32 (f i) (v i)) :
    Calls Try.prog 30 #[.slice (some ⟨b, off, none⟩) n cap, .float .f32 x] w (RetList (weighV v y) n (weighB v y n) w) := by
  have hst := run_store_float Try.prog
  have HA := sAreK b off n cap f v w hn hb hr hv
  have HZ := fun (W : World) => sZer ix W
  have HR := Lib.hid hr
  have HV := Lib.hid hv
  clear hr hv
  cases ha : areK v n with
  | false =>
    rw [ha] at HA
    rw [show weighB v y n = false by simp [weighB, ha]]
    go_enter Try.func30, Try.ntmps30
    go_wp2_with (first | (go_at_call 34; refine (HA).mono ?_; rintro _ W1 ⟨rfl, b1⟩) | (go_at_call 55; refine (HZ _).mono ?_; rintro eq wq ⟨nq, rfl, rfl⟩))
    go_ret2
    exact RetList.no b1
  | true =>
    rw [ha] at HA
    cases hz : zerB y with
    | false =>
      rw [hz] at HZ
      rw [show weighB v y n = false by simp [weighB, hz]]
      go_enter Try.func30, Try.ntmps30
      go_wp2_with (first | (go_at_call 34; refine (HA).mono ?_; rintro _ W1 ⟨rfl, b1⟩) | (go_at_call 55; refine (HZ _).mono ?_; rintro eq wq ⟨nq, rfl, rfl⟩))
      go_ret2
      exact RetList.no (below_drewN b1 _)
    | true =>
      rw [hz] at HZ
      rcases Nat.eq_zero_or_pos n with rfl | h0
      · rw [weigh0 v y hz]
        go_enter Try.func30, Try.ntmps30
        go_wp2_with (first | (go_at_call 34; refine (HA).mono ?_; rintro _ W1 ⟨rfl, b1⟩) | (go_at_call 55; refine (HZ _).mono ?_; rintro eq wq ⟨nq, rfl, rfl⟩))
        have b2 : Below w.heap.size w ((W1.drewN nq).alloc (.cells #[] 58)) := by have hz1 := b1.size; repeat' (first | with_reducible exact Below.refl _ _ | with_reducible assumption | (with_reducible refine Below.setCell ?_ (by first | omega | (simp; done) | (simp; omega)) _) | (with_reducible refine Below.alloc ?_ (by first | omega | (simp; done) | (simp; omega)) _) | (with_reducible refine below_drewN ?_ _) | (with_reducible refine Below.drew ?_) | (with_reducible refine Below.trans ?_ (Below.mono (by first | (with_reducible assumption) | exact Grow.below (by assumption)) (by first | omega | (simp; done) | (simp; omega)))))
        generalize ((W1.drewN nq).alloc (.cells #[] 58)) = W2 at b2 ⊢
        generalize hA2 : W1.heap.size = A2
        clear b1 hA2
        go_loopw [20, 6] (fun i l wr => i = .int .i64 0 ∧ l = .slice (some ⟨A2, 0, none⟩) 0 0 ∧ wr = W2) (fun i _ _ => 0)
        case atStart => exact ⟨rfl, rfl, rfl⟩
        case round =>
          obtain ⟨rfl, rfl, rfl⟩ := hrel
          go_wp2_with (go_at_call 34; refine (sAreK0 (some ⟨A2, 0, none⟩) 0 _).mono ?_; rintro _ _ ⟨rfl, rfl⟩)
          go_ret2
          exact ⟨⟨_, rfl, .inl ⟨rfl, _, _, rfl⟩⟩, b2⟩
      · rw [show weighB v y n = areK (weighV v y) n by simp [weighB, ha, hz]]
        obtain ⟨i, hi, he⟩ := Option.map_eq_some_iff.1 infoK
        obtain ⟨i', hi', hzk⟩ := Option.map_eq_some_iff.1 zeroK
        obtain rfl : i' = i := by rw [hi] at hi'; cases hi'; rfl
        simp only [Prod.mk.injEq] at he
        obtain ⟨hs, hbt⟩ := he
        obtain ⟨z, hzz, hzc⟩ := Option.map_eq_some_iff.1 hzk
        have hcz : z.cells.size = 5 := by rw [hzc]; rfl
        clear hzk hzc
        have hi' := hi
        clear hi
        go_enter Try.func30, Try.ntmps30
        go_wp2_with (first | (go_at_call 34; refine (HA).mono ?_; rintro _ W1 ⟨rfl, b1⟩) | (go_at_call 55; refine (HZ _).mono ?_; rintro eq wq ⟨nq, rfl, rfl⟩))
        have b2 : Below w.heap.size w ((W1.drewN nq).alloc (.cells #[] 58)) := by have hz1 := b1.size; repeat' (first | with_reducible exact Below.refl _ _ | with_reducible assumption | (with_reducible refine Below.setCell ?_ (by first | omega | (simp; done) | (simp; omega)) _) | (with_reducible refine Below.alloc ?_ (by first | omega | (simp; done) | (simp; omega)) _) | (with_reducible refine below_drewN ?_ _) | (with_reducible refine Below.drew ?_) | (with_reducible refine Below.trans ?_ (Below.mono (by first | (with_reducible assumption) | exact Grow.below (by assumption)) (by first | omega | (simp; done) | (simp; omega)))))
        have o2 : ((W1.drewN nq).alloc (.cells #[] 58)).ownsRow w.heap.size 58 5 (.slice (some ⟨W1.heap.size, 0, none⟩) 0 0) 0 [] := by
          simpa using World.ownsRow_made (base := w.heap.size) (e := 58) (size := 5) (W1.drewN nq) #[] 0 (by simpa using b1.size) (Nat.zero_le _) rfl
        generalize ((W1.drewN nq).alloc (.cells #[] 58)) = W2 at b2 o2 ⊢
        clear b1
        go_loopw [20, 6] (fun i l wr => ∃ (k : Nat) (r : Nat → Nat), k ≤ n ∧ i = .int .i64 k ∧ wr.ownsRow w.heap.size 58 5 l k ((List.range (5 * k)).map (wordV r)) ∧ (∀ i, i < 5 * k → Is .f32 (r i) (weighV v y i)) ∧ Below w.heap.size w wr) (fun i _ _ => n - (intOf i).toNat)
        case atStart => exact ⟨0, fun _ => 0, Nat.zero_le _, rfl, o2, fun i hi => by omega, b2⟩
        case round =>
          clear o2 b2
          obtain ⟨k, r, hk, rfl, ho, hi, hbel⟩ := hrel
          have HO := Lib.hid ho
          have HI := Lib.hid hi
          clear ho hi
          by_cases hlt : k < n
          · obtain ⟨c0, c1, c2, c3, c4⟩ := cells5 HR.out hlt
            rw [← hbel.cell (by exact hb)] at c0 c1 c2 c3 c4
            have hz2 := hbel.size
            have i4 : Is .f32 (f (5 * k + 4)) (v (5 * k + 4)) := HV.out _ (by omega)
            go_wp2_with (first | (apply wpList_arith; rfl; simp [Arith]; rfl; rfl; (first | assumption | exact is_lit64 _ (by decide) | exact is_lit32 _ (by decide)); (first | assumption | exact is_lit64 _ (by decide) | exact is_lit32 _ (by decide)); intro Kq hKq rq nq hq; go_simp) | (at_builtin; go_loud (refine wpList_append_form (by rfl) (.tmp 32) (.tmp 34) 25 (by rfl) w.heap.size 58 i' z 5 20 Try.underlying25 hi' hzz hs hbt hcz (by decide) _ k _ (by rfl) (orow_below HO.out (by repeat' (first | with_reducible exact Below.refl _ _ | with_reducible assumption | (with_reducible refine Below.setCell ?_ (by first | omega | (simp; done) | (simp; omega)) _) | (with_reducible refine Below.alloc ?_ (by first | omega | (simp; done) | (simp; omega)) _) | (with_reducible refine below_drewN ?_ _) | (with_reducible refine Below.drew ?_) | (with_reducible refine Below.trans ?_ (Below.mono (by first | (with_reducible assumption) | exact Grow.below (by assumption)) (by first | omega | (simp; done) | (simp; omega))))))) ⟨wr.heap.size + 1, 0, none⟩ 1 1 [_, _, _, _, _] (by rfl) rfl (news _ (wr.heap.size + 1) #[_, _, _, _, _] _ (by simp)) (fun u hu => by simp at hu; rcases hu with rfl | rfl | rfl | rfl | rfl <;> rfl) (by unfold maxLen; omega) (by omega) (by simp; omega) (by omega) ?_); intro g' cap' w3 hown' hgrow))
            go_roundw
            case rel =>
              refine ⟨k + 1, fun j => if j = 5 * k + 4 then rq else if 5 * k ≤ j then f j else r j, by omega, by go_num, ?_, ?_, ?_⟩
              · rw [range5]
                have e : (List.range (5 * k)).map (wordV fun j => if j = 5 * k + 4 then rq else if 5 * k ≤ j then f j else r j) = (List.range (5 * k)).map (wordV r) := by
                  apply List.map_congr_left
                  intro j hj
                  have hj' := List.mem_range.1 hj
                  simp only [wordV]
                  rw [if_neg (by omega), if_neg (by omega)]
                rw [e]
                simpa [wordV] using hown'
              · intro i hi
                dsimp only
                by_cases e4 : i = 5 * k + 4
                · subst e4; rw [if_pos rfl, weighV_4]; exact hq
                · rw [if_neg e4]
                  by_cases hl : 5 * k ≤ i
                  · rw [if_pos hl, weighV_o v y (by omega)]; exact HV.out i (by omega)
                  · rw [if_neg hl]; exact HI.out i (by omega)
              · refine Below.grown ?_ hgrow (by simp; omega) (fun i hi => (HO.out.lt i hi).1)
                repeat' (first | with_reducible exact Below.refl _ _ | with_reducible assumption | (with_reducible refine Below.setCell ?_ (by first | omega | (simp; done) | (simp; omega)) _) | (with_reducible refine Below.alloc ?_ (by first | omega | (simp; done) | (simp; omega)) _) | (with_reducible refine below_drewN ?_ _) | (with_reducible refine Below.drew ?_) | (with_reducible refine Below.trans ?_ (Below.mono (by first | (with_reducible assumption) | exact Grow.below (by assumption)) (by first | omega | (simp; done) | (simp; omega)))))
            case measure => simp [intOf]; omega
          · have hkn : k = n := by omega
            subst hkn
            obtain ⟨g, c, rfl, hg, hgl⟩ := HO.out.form h0
            have ho := own_of_row HO.out
            have HA2 := sAreK g 0 k c r (weighV v y) wr hn ho.1 (ownCells ho) HI.out
            have HO2 := Lib.hid ho
            clear ho
            cases hu : areK (weighV v y) k with
            | true =>
              rw [hu] at HA2
              go_wp2_with (go_at_call 34; refine HA2.mono ?_; rintro _ W3 ⟨rfl, b3⟩)
              go_ret2
              rw [hu]
              exact ⟨⟨_, rfl, .inr ⟨g, c, r, rfl, hg, Nat.lt_of_lt_of_le HO2.out.1 b3.size, by simpa using HO2.out.step b3, by simpa using HI.out⟩⟩, hbel.trans (b3.mono hbel.size)⟩
            | false =>
              rw [hu] at HA2
              go_wp2_with (go_at_call 34; refine HA2.mono ?_; rintro _ W3 ⟨rfl, b3⟩)
              go_ret2
              rw [hu]
              exact RetList.no (hbel.trans (b3.mono hbel.size))
end Go.Proofs.Ythgnlpeogdockaa
