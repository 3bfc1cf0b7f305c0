/-
  Looks that are weighed, of the program. No condition.
-/
import Derived.Test.YthgnlpeogdockaaLkN
import Derived.Test.YthgnlpeogdockaaApp
import Derived.OwnWalk
import Derived.Lib.SliceRun
namespace Go.Proofs.Ythgnlpeogdockaa
open Go.RowKit

theorem addK (b off i : Nat) : (⟨b, off, none⟩ : Addr).add i = ⟨b, off + i, none⟩ := by unfold Addr.add; split <;> simp_all
theorem add0 (b i : Nat) : (⟨b, 0, none⟩ : Addr).add i = ⟨b, i, none⟩ := by rw [addK, Nat.zero_add]

/-- The values of looks that are weighed. -/
def weighV (v : Nat → Option Nat) (b : Option Nat) (j : Nat) : Option Nat := if j % 5 = 4 then fo .mul .f32 (v j) b else v j
/-- Whether looks can be weighed. -/
def weighB (v : Nat → Option Nat) (b : Option Nat) (n : Nat) : Bool := areK v n && (zerB b && areK (weighV v b) n)

theorem iIndexK0 (a : Option Addr) (cap : Nat) (w : World) :
    Calls Try.prog 60 #[.slice a 0 cap, .func (.func 37) #[] #[]] w fun e w' => e = .returned (.int .i64 (-1)) ∧ w' = w := by
  go_enter Try.func60, Try.ntmps60
  go_wp2
  go_loopw [8] (fun i wr => i = .int .i64 0 ∧ wr = w) (fun i _ => 0)
  case atStart => exact ⟨rfl, rfl⟩
  case round =>
    obtain ⟨rfl, rfl⟩ := hrel
    go_wp2
    go_ret
    exact ⟨rfl, rfl⟩
theorem iContainsK0 (a : Option Addr) (cap : Nat) (w : World) :
    Calls Try.prog 36 #[.slice a 0 cap, .func (.func 37) #[] #[]] w fun e w' => e = .returned (.bool false) ∧ w' = w := by
  go_enter Try.func36, Try.ntmps36
  go_wp2_with (go_at_call 60; refine (iIndexK0 a cap _).mono ?_; rintro eq wq ⟨rfl, rfl⟩)
  go_ret
  exact ⟨rfl, rfl⟩
theorem iAreK0 (a : Option Addr) (cap : Nat) (w : World) :
    Calls Try.prog 13 #[.slice a 0 cap] w fun e w' => e = .returned (.bool true) ∧ w' = w := by
  go_enter Try.func13, Try.ntmps13
  go_wp2_with (go_at_call 36; refine (iContainsK0 a cap _).mono ?_; rintro eq wq ⟨rfl, rfl⟩)
  go_ret
  exact ⟨rfl, rfl⟩

set_option maxHeartbeats 1600000 in
theorem iClone (b off n cap : Nat) (f : Nat → Nat) (w : World) (h0 : 0 < n) (hn : n ≤ 1048576) (hb : b < w.heap.size) (hr : ∀ i, i < 5 * n → w.cell? ⟨b, off + i, none⟩ = some (.float .f32 (f i))) :
    Calls Try.prog 57 #[.slice (some ⟨b, off, none⟩) n cap] w fun e w' => (∃ g c, e = .returned (.slice (some ⟨g, 0, none⟩) n c) ∧ w.heap.size ≤ g ∧ Own w' g (5 * n) (wordV f)) ∧ Below w.heap.size w w' := by
  have HR := Lib.hid hr
  clear hr
  obtain ⟨i, hi, he⟩ := Option.map_eq_some_iff.1 infoK
  obtain ⟨i', hi', hz⟩ := Option.map_eq_some_iff.1 zeroK
  obtain rfl : i' = i := by rw [hi] at hi'; cases hi'; rfl
  simp only [Prod.mk.injEq] at he
  obtain ⟨hs, hbt⟩ := he
  obtain ⟨z, hzz, hzc⟩ := Option.map_eq_some_iff.1 hz
  have hcz : z.cells.size = 5 := by rw [hzc]; rfl
  clear hz
  have hnil := fun (w : World) (a : Option Addr) (n c n' c' : Nat) => Lib.run_eql_slice_nil w 25 58 a n c n' c' Try.underlying25
  go_enter Try.func57, Try.ntmps57
  go_wp2_with (at_builtin; go_loud (refine wpList_append_form (by rfl) (.tmp 5) (.tmp 6) 25 (by rfl) w.heap.size 58 i' z 5 20 Try.underlying25 hi hzz hs hbt hcz (by decide) _ 0 [] (by rfl) (World.ownsRow_made w #[] 0 (Nat.le_refl _) (Nat.zero_le _) rfl) ⟨b, off, none⟩ n cap ((List.range (5 * n)).map (wordV f)) (by rfl) (by simp; omega) ?_ ?_ (by unfold maxLen; omega) (by omega) (by simp) (by omega) ?_); rotate_left 2; intro g c w1 hown hgrow)
  · go_ret
    have hlt := hown.lt g rfl
    refine ⟨⟨g, c, rfl, hlt.1, hlt.2, fun i hi => ?_, fun i => hown.frozenAt i⟩, ((Below.refl w.heap.size w).alloc (Nat.le_refl _) _).grown hgrow (by simp) (fun k hk => by cases hk; exact Nat.le_refl _)⟩
    have h1 := hown.cells (g := g) rfl i (wordV f i) (by simp [hi])
    rw [add0] at h1
    exact h1
  · intro j u hu
    have hj : j < 5 * n := by
      have := (List.getElem?_eq_some_iff.1 hu).1
      simpa using this
    have hu' : wordV f j = u := by simpa [hj] using hu
    rw [← hu', addK]
    exact (((Below.refl w.heap.size w).alloc (Nat.le_refl _) _).cell (p := ⟨b, off + j, none⟩) hb).trans (HR.out j hj)
  · intro u hu
    obtain ⟨j, _, rfl⟩ := List.mem_map.1 hu
    rfl

theorem iClone0 (b off cap : Nat) (w : World) :
    Calls Try.prog 57 #[.slice (some ⟨b, off, none⟩) 0 cap] w fun e w' => (∃ a c, e = .returned (.slice a 0 c)) ∧ Below w.heap.size w w' := by
  have hnil := fun (w : World) (a : Option Addr) (n c n' c' : Nat) => Lib.run_eql_slice_nil w 25 58 a n c n' c' Try.underlying25
  go_enter Try.func57, Try.ntmps57
  go_wp2_with fail
  go_ret
  exact ⟨⟨_, _, rfl⟩, by repeat' (first | with_reducible exact Below.refl _ _ | with_reducible assumption | (with_reducible refine Below.setCell ?_ (by first | omega | (simp; done) | (simp; omega)) _) | (with_reducible refine Below.alloc ?_ (by first | omega | (simp; done) | (simp; omega)) _) | (with_reducible refine below_drewN ?_ _) | (with_reducible refine Below.drew ?_) | (with_reducible refine Below.trans ?_ (Below.mono (by first | (with_reducible assumption) | exact Grow.below (by assumption)) (by first | omega | (simp; done) | (simp; omega)))))⟩

theorem iCheckedK (b n cap : Nat) (r : Nat → Nat) (u : Nat → Option Nat) (w : World) (hn : n ≤ 1048576) (ho : Own w b (5 * n) (wordV r)) (hu : ∀ i, i < 5 * n → Is .f32 (r i) (u i)) :
    Calls Try.prog 58 #[.slice (some ⟨b, 0, none⟩) n cap] w fun e w' => (∃ v, e = .returned (.tuple #[v, .bool (areK u n)]) ∧ (areK u n = true → v = .slice (some ⟨b, 0, none⟩) n cap) ∧ (areK u n = false → v = .slice none 0 0)) ∧ Below w.heap.size w w' := by
  have HA := iAreK b 0 n cap r u w hn ho.1 (ownCells ho) hu
  cases ha : areK u n with
  | false =>
    rw [ha] at HA
    go_enter Try.func58, Try.ntmps58
    go_wp2_with (go_at_call 13; refine (HA).mono ?_; rintro _ W1 ⟨rfl, b1⟩)
    go_ret2
    exact ⟨⟨_, rfl, by simp, by simp⟩, b1⟩
  | true =>
    rw [ha] at HA
    go_enter Try.func58, Try.ntmps58
    go_wp2_with (go_at_call 13; refine (HA).mono ?_; rintro _ W1 ⟨rfl, b1⟩)
    go_ret2
    exact ⟨⟨_, rfl, by simp, by simp⟩, b1⟩
theorem iCheckedK0 (a : Option Addr) (cap : Nat) (w : World) :
    Calls Try.prog 58 #[.slice a 0 cap] w fun e w' => e = .returned (.tuple #[.slice a 0 cap, .bool true]) ∧ w' = w := by
  go_enter Try.func58, Try.ntmps58
  go_wp2_with (go_at_call 13; refine (iAreK0 a cap _).mono ?_; rintro eq wq ⟨rfl, rfl⟩)
  go_ret2
  exact ⟨rfl, rfl⟩

theorem weighV_4 (v : Nat → Option Nat) (b : Option Nat) (k : Nat) : weighV v b (5 * k + 4) = fo .mul .f32 (v (5 * k + 4)) b := by unfold weighV; rw [if_pos (by omega)]
theorem weighV_o (v : Nat → Option Nat) (b : Option Nat) {i : Nat} (h : i % 5 ≠ 4) : weighV v b i = v i := by unfold weighV; rw [if_neg h]
theorem weigh0 (v : Nat → Option Nat) (b : Option Nat) (h : zerB b = true) : weighB v b 0 = true := by simp [weighB, areK, allK, h]

set_option maxHeartbeats 3200000 in
theorem iWeigh (b off n cap : Nat) (f : Nat → Nat) (v : Nat → Option Nat) {x : Nat} {y : Option Nat} (ix : Is .f32 x y) (w : World) (hn : n ≤ 1048576) (hb : b < w.heap.size) (hr : ∀ i, i < 5 * n → w.cell? ⟨b, off + i, none⟩ = some (.float .f32 (f i))) (hv : ∀ i, i < 5 * n → Is .f32 (f i) (v i)) :
    Calls Try.prog 31 #[.slice (some ⟨b, off, none⟩) n cap, .float .f32 x] w (RetList (weighV v y) n (weighB v y n) w) := by
  have hst := run_store_float Try.prog
  have HA := iAreK b off n cap f v w hn hb hr hv
  have HZ := fun (W : World) => iZer ix W
  have HR := Lib.hid hr
  have HV := Lib.hid hv
  clear hr hv
  cases ha : areK v n with
  | false =>
    rw [ha] at HA
    rw [show weighB v y n = false by simp [weighB, ha]]
    go_enter Try.func31, Try.ntmps31
    go_wp2_with (first | (go_at_call 13; refine (HA).mono ?_; rintro _ W1 ⟨rfl, b1⟩) | (go_at_call 56; refine (HZ _).mono ?_; rintro eq wq ⟨nq, rfl, rfl⟩))
    go_ret2
    exact RetList.no b1
  | true =>
    rw [ha] at HA
    cases hz : zerB y with
    | false =>
      rw [hz] at HZ
      rw [show weighB v y n = false by simp [weighB, hz]]
      go_enter Try.func31, Try.ntmps31
      go_wp2_with (first | (go_at_call 13; refine (HA).mono ?_; rintro _ W1 ⟨rfl, b1⟩) | (go_at_call 56; refine (HZ _).mono ?_; rintro eq wq ⟨nq, rfl, rfl⟩))
      go_ret2
      exact RetList.no (below_drewN b1 _)
    | true =>
      rw [hz] at HZ
      rcases Nat.eq_zero_or_pos n with rfl | h0
      · rw [weigh0 v y hz]
        go_enter Try.func31, Try.ntmps31
        go_wp2_with (first | (go_at_call 13; refine (HA).mono ?_; rintro _ W1 ⟨rfl, b1⟩) | (go_at_call 56; refine (HZ _).mono ?_; rintro eq wq ⟨nq, rfl, rfl⟩) | (go_at_call 57; refine (iClone0 b off cap _).mono ?_; rintro _ W2 ⟨⟨a2, c2, rfl⟩, b2⟩))
        go_loopw [21] (fun i wr => i = .int .i64 0 ∧ wr = W2) (fun i _ => 0)
        case atStart => exact ⟨rfl, rfl⟩
        case round =>
          obtain ⟨rfl, rfl⟩ := hrel
          go_wp2_with (go_at_call 58; refine (iCheckedK0 a2 c2 _).mono ?_; rintro _ _ ⟨rfl, rfl⟩)
          go_ret2
          exact ⟨⟨_, rfl, .inl ⟨rfl, _, _, rfl⟩⟩, by have hz1 := b1.size; repeat' (first | with_reducible exact Below.refl _ _ | with_reducible assumption | (with_reducible refine Below.setCell ?_ (by first | omega | (simp; done) | (simp; omega)) _) | (with_reducible refine Below.alloc ?_ (by first | omega | (simp; done) | (simp; omega)) _) | (with_reducible refine below_drewN ?_ _) | (with_reducible refine Below.drew ?_) | (with_reducible refine Below.trans ?_ (Below.mono (by first | (with_reducible assumption) | exact Grow.below (by assumption)) (by first | omega | (simp; done) | (simp; omega)))))⟩
      · rw [show weighB v y n = areK (weighV v y) n by simp [weighB, ha, hz]]
        go_enter Try.func31, Try.ntmps31
        go_wp2_with (first | (go_at_call 13; refine (HA).mono ?_; rintro _ W1 ⟨rfl, b1⟩) | (go_at_call 56; refine (HZ _).mono ?_; rintro eq wq ⟨nq, rfl, rfl⟩) | (go_at_call 57; refine (iClone b off n cap f _ h0 hn (by simpa using Nat.lt_of_lt_of_le hb b1.size) (fun i hi => by simpa using (b1.cell (p := ⟨b, off + i, none⟩) hb).trans (HR.out i hi))).mono ?_; rintro _ W2 ⟨⟨g, c, rfl, hg, ho⟩, b2⟩))
        have hgw : w.heap.size ≤ g := Nat.le_trans b1.size (by simpa using hg)
        have b3 : Below w.heap.size w W2 := by have hz1 := b1.size; repeat' (first | with_reducible exact Below.refl _ _ | with_reducible assumption | (with_reducible refine Below.setCell ?_ (by first | omega | (simp; done) | (simp; omega)) _) | (with_reducible refine Below.alloc ?_ (by first | omega | (simp; done) | (simp; omega)) _) | (with_reducible refine below_drewN ?_ _) | (with_reducible refine Below.drew ?_) | (with_reducible refine Below.trans ?_ (Below.mono (by first | (with_reducible assumption) | exact Grow.below (by assumption)) (by first | omega | (simp; done) | (simp; omega)))))
        clear b1 b2 hg
        go_loopw [21] (fun i wr => ∃ (k : Nat) (r : Nat → Nat), k ≤ n ∧ i = .int .i64 k ∧ Own wr g (5 * n) (wordV r) ∧ (∀ i, i < 5 * n → Is .f32 (r i) (if i < 5 * k then weighV v y i else v i)) ∧ Below w.heap.size w wr) (fun i _ => n - (intOf i).toNat)
        case atStart => exact ⟨0, f, Nat.zero_le _, rfl, ho, fun i hi => by rw [if_neg (by omega)]; exact HV.out i hi, b3⟩
        case round =>
          clear ho b3
          obtain ⟨k, r, hk, rfl, ho, hi, hbel⟩ := hrel
          have HO := Lib.hid ho
          have HI := Lib.hid hi
          by_cases hlt : k < n
          · obtain ⟨c0, c1, c2, c3, c4⟩ := cells5 HR.out hlt
            rw [← hbel.cell (by exact hb)] at c0 c1 c2 c3 c4
            have hz2 := hbel.size
            obtain ⟨d0, d1, d2, d3, d4⟩ := own5 ho hlt
            have fz : ∀ o, wr.frozen? ⟨g, o, none⟩ = false := ho.2.2
            have hgl := ho.1
            have i4 : Is .f32 (f (5 * k + 4)) (v (5 * k + 4)) := HV.out _ (by omega)
            clear ho hi
            go_wp2_with (apply wpList_arith; rfl; simp [Arith]; rfl; rfl; (first | assumption | exact is_lit64 _ (by decide) | exact is_lit32 _ (by decide)); (first | assumption | exact is_lit64 _ (by decide) | exact is_lit32 _ (by decide)); intro Kq hKq rq nq hq; go_simp)
            go_roundw
            case rel =>
              refine ⟨k + 1, fun j => if j = 5 * k + 4 then rq else r j, by omega, by go_num, ?_, ?_, ?_⟩
              · refine (((HO.out.alloc _).heap (W := (wr.alloc _).drewN nq) rfl).set (i := k * 5 + 4) (by omega) _).congr fun j hj => ?_
                by_cases e4 : j = 5 * k + 4
                · subst e4
                  rw [if_pos (by omega)]
                  simp
                · rw [if_neg (by omega)]
                  simp [e4]
              · intro i hi
                by_cases e4 : i = 5 * k + 4
                · subst e4; rw [if_pos (by omega), weighV_4]; simpa using hq
                · simp only [e4, if_false]
                  have h := HI.out i hi
                  by_cases hl : i < 5 * k
                  · rw [if_pos hl] at h; rw [if_pos (by omega)]; exact h
                  · rw [if_neg hl] at h
                    by_cases hl2 : i < 5 * (k + 1)
                    · rw [if_pos hl2, weighV_o v y (by omega)]; exact h
                    · rw [if_neg hl2]; exact h
              · repeat' (first | with_reducible exact Below.refl _ _ | with_reducible assumption | (with_reducible refine Below.setCell ?_ (by first | omega | (simp; done) | (simp; omega)) _) | (with_reducible refine Below.alloc ?_ (by first | omega | (simp; done) | (simp; omega)) _) | (with_reducible refine below_drewN ?_ _) | (with_reducible refine Below.drew ?_) | (with_reducible refine Below.trans ?_ (Below.mono (by first | (with_reducible assumption) | exact Grow.below (by assumption)) (by first | omega | (simp; done) | (simp; omega)))))
            case measure => simp [intOf]; omega
          · have hkn : Hid (k = n) := (show k = n by omega)
            have hI : Hid (∀ i, i < 5 * n → Is .f32 (r i) (weighV v y i)) := (show _ from fun i h => by have := HI.out i h; rw [if_pos (by rw [hkn.out]; exact h)] at this; exact this)
            clear ho hi
            go_wp2_with (go_at_call 58; refine (iCheckedK g n c r _ _ hn HO.out hI.out).mono ?_; rintro _ W3 ⟨⟨v3, rfl, ht, hf⟩, b3⟩)
            go_ret2
            refine ⟨⟨_, rfl, ?_⟩, hbel.trans (b3.mono hbel.size)⟩
            cases hu : areK (weighV v y) n with
            | true => exact .inr ⟨g, c, r, ht hu, hgw, Nat.lt_of_lt_of_le HO.out.1 b3.size, by simpa using HO.out.step b3, by simpa using hI.out⟩
            | false => exact .inl ⟨by simp, _, _, hf hu⟩
end Go.Proofs.Ythgnlpeogdockaa
