/-
  How all bodies are pulled, of the program. No condition.
-/
import Derived.Test.YtjljdnkedbejaaaPulS
import Derived.Test.YtjljdnkedbejaaaDrpS
import Derived.Test.YtjljdnkedbejaaaVrN
import Derived.Test.YtjljdnkedbejaaaGood
namespace Go.Proofs.Ytjljdnkedbejaaa
open Go.RowKit

theorem dropV_at (v : Nat → Option Nat) {K k t : Nat} (h : k ≠ K) (ht : t < 7) : dropV v K (7 * keptN K k + t) = v (7 * k + t) := by
  unfold dropV keptN
  by_cases hk : k ≤ K
  · rw [if_pos hk, if_pos (by omega)]
  · rw [if_neg hk, if_neg (by omega)]
    congr 1
    omega

theorem pull_drop (v A : Nat → Option Nat) (c : Option Nat) (j : Nat) (hj : j < 3) (K : Nat) : ∀ k, pullS (dropV v K) A c j (keptN K k) = pullZ K v A c j k
  | 0 => by rw [show keptN K 0 = 0 from rfl]; rfl
  | k + 1 => by
    by_cases h : k = K
    · rw [show keptN K (k + 1) = keptN K k by unfold keptN; rw [if_neg (by omega), if_pos (by omega)]; omega, pull_drop v A c j hj K k, pullZ_s (by omega)]
    · have e : keptN K (k + 1) = keptN K k + 1 := by unfold keptN; split <;> split <;> omega
      have d0 := dropV_at v h (t := 0) (by decide)
      have d1 := dropV_at v h (t := 1) (by decide)
      have d2 := dropV_at v h (t := 2) (by decide)
      have d6 := dropV_at v h (t := 6) (by decide)
      have dj := dropV_at v h (t := j) (by omega)
      simp only [Nat.add_zero] at d0
      have hp : pq (dropV v K) A c (keptN K k) = pq v A c k := by unfold pq; rw [d0, d1, d2]
      have hb : pullsB (dropV v K) A c (keptN K k) = pullsB v A c k := by unfold pullsB; rw [hp]
      have hJ : pullJ (dropV v K) A c j (keptN K k) = pullJ v A c j k := by unfold pullJ ps; rw [dj, d6, hp]
      have ih := pull_drop v A c j hj K k
      rw [e]
      show (if pullsB (dropV v K) A c (keptN K k) then fo .add .f32 (pullS (dropV v K) A c j (keptN K k)) (pullJ (dropV v K) A c j (keptN K k)) else pullS (dropV v K) A c j (keptN K k)) = (if (k : Int) = (K : Int) then pullZ K v A c j k else if pullsB v A c k then fo .add .f32 (pullZ K v A c j k) (pullJ v A c j k) else pullZ K v A c j k)
      rw [if_neg (by omega : ¬ (k : Int) = (K : Int)), hb, hJ, ih]

/-- The place of a body. -/
def plA (v : Nat → Option Nat) (i j : Nat) : Option Nat := v (7 * i + j)
/-- The pulls, number by number. -/
def plV (v : Nat → Option Nat) (c : Option Nat) (n m : Nat) : Option Nat := pullZ ((m / 3 : Nat) : Int) v (plA v (m / 3)) c (m % 3) n
theorem plV_at (v : Nat → Option Nat) (c : Option Nat) (n i j : Nat) (hj : j < 3) : plV v c n (3 * i + j) = pullZ (i : Int) v (plA v i) c j n := by
  unfold plV
  rw [show (3 * i + j) / 3 = i by omega, show (3 * i + j) % 3 = j by omega]
/-- Whether a pull is finite, and whether the first k are. -/
def plOne (v : Nat → Option Nat) (c : Option Nat) (n i : Nat) : Bool := finV (plV v c n (3 * i)) (plV v c n (3 * i + 1)) (plV v c n (3 * i + 2))
def plAll (v : Nat → Option Nat) (c : Option Nat) (n : Nat) : Nat → Bool
  | 0 => true
  | k + 1 => plAll v c n k && plOne v c n k
theorem plAll_no {v : Nat → Option Nat} {c : Option Nat} {n i : Nat} (h : plOne v c n i = false) : ∀ {k}, i < k → plAll v c n k = false
  | k + 1, hk => by
    by_cases e : i = k
    · subst e; simp [plAll, h]
    · simp [plAll, plAll_no h (show i < k by omega)]
/-- Whether all bodies are pulled. -/
def plB (v : Nat → Option Nat) (c : Option Nat) (n : Nat) : Bool := areB v n && (leastB c && plAll v c n n)

/-- The bodies of a list without one are bodies. -/
theorem drop_are {v : Nat → Option Nat} {n K : Nat} (h : areB v n = true) (hK : K < n) : areB (dropV v K) (n - 1) = true := by
  unfold areB at h ⊢
  simp only [Bool.and_eq_true, decide_eq_true_eq] at h ⊢
  have go : ∀ k, k ≤ n → allB (dropV v K) (keptN K k) = true := by
    intro k
    induction k with
    | zero => intro _; rfl
    | succ k ih =>
      intro hk
      have hi := ih (by omega)
      by_cases e : k = K
      · rw [show keptN K (k + 1) = keptN K k by unfold keptN; rw [if_neg (by omega), if_pos (by omega)]; omega]
        exact hi
      · have d0 := dropV_at v e (t := 0) (by decide)
        have d1 := dropV_at v e (t := 1) (by decide)
        have d2 := dropV_at v e (t := 2) (by decide)
        have d3 := dropV_at v e (t := 3) (by decide)
        have d4 := dropV_at v e (t := 4) (by decide)
        have d5 := dropV_at v e (t := 5) (by decide)
        have d6 := dropV_at v e (t := 6) (by decide)
        simp only [Nat.add_zero] at d0
        have ho : okB (dropV v K) (keptN K k) = okB v k := by unfold okB; rw [d0, d1, d2, d3, d4, d5, d6]
        rw [show keptN K (k + 1) = keptN K k + 1 by unfold keptN; split <;> split <;> omega]
        simp only [allB, Bool.and_eq_true]
        exact ⟨hi, by rw [ho]; exact allB_at h.2 (by omega)⟩
  have hg := go n (Nat.le_refl _)
  rw [show keptN K n = n - 1 by unfold keptN; rw [if_neg (by omega)]] at hg
  exact ⟨by omega, hg⟩

theorem iSumC0 (F : Nat) (C : Array Value) (a : Option Addr) (cap : Nat) (w : World) :
    Calls Try.prog 62 #[.slice a 0 cap, .func (.func F) #[] C] w fun e w' => e = .returned (vecV 0 0 0) ∧ Below w.heap.size w w' := by
  have hst := run_store_float Try.prog
  go_enter Try.func62, Try.ntmps62
  go_wp2
  go_loopw [10] (fun i wr => i = .int .i64 0 ∧ wr = (w.alloc (.cells #[.float .f32 0, .float .f32 0, .float .f32 0] 40)).alloc (.cells #[.float .f32 0, .float .f32 0, .float .f32 0] 40)) (fun i _ => 0)
  case atStart => exact ⟨rfl, rfl⟩
  case round =>
    obtain ⟨rfl, rfl⟩ := hrel
    go_wp2
    refine bodyPost_ret (v := vecV 0 0 0) (by simp [results, Try.results62, go_sem]) rfl ⟨rfl, ?_⟩
    repeat' (first | with_reducible exact Below.refl _ _ | with_reducible assumption | (with_reducible refine Below.setCell ?_ (by first | omega | (simp; done) | (simp; omega)) _) | (with_reducible refine Below.alloc ?_ (by first | omega | (simp; done) | (simp; omega)) _) | (with_reducible refine below_drewN ?_ _) | (with_reducible refine Below.drew ?_) | (with_reducible refine Below.trans ?_ (Below.mono (by first | (with_reducible assumption) | exact Grow.below (by assumption)) (by first | omega | (simp; done) | (simp; omega)))))

theorem zeroIs : Is .f32 0 (some 0) := is_lit32 0 (by decide)

set_option maxHeartbeats 1600000 in
theorem iSumRow {lo hi m : Nat} {u A : Nat → Option Nat} {c : Option Nat} {p0 p1 p2 x ba bc : Nat} {s : Value} (w : World) (hR : RowOk lo hi w s m u) (hA : areB u m = true) (g0 : Is .f32 p0 (A 0)) (g1 : Is .f32 p1 (A 1)) (g2 : Is .f32 p2 (A 2)) (hF : finV (A 0) (A 1) (A 2) = true) (ic : Is .f32 x c) (hc : leastB c = true) (hba : ba < w.heap.size) (hbc : bc < w.heap.size)
    (k0 : w.cell? ⟨ba, 0, none⟩ = some (.float .f32 p0)) (k1 : w.cell? ⟨ba, 1, none⟩ = some (.float .f32 p1)) (k2 : w.cell? ⟨ba, 2, none⟩ = some (.float .f32 p2)) (kc : w.cell? ⟨bc, 0, none⟩ = some (.float .f32 x)) :
    Calls Try.prog 62 #[s, .func (.func 67) #[] #[.pointer (some ⟨ba, 0, none⟩), .pointer (some ⟨bc, 0, none⟩)]] w
      fun e w' => (∃ r0 r1 r2, e = .returned (vecV r0 r1 r2) ∧ Is .f32 r0 (pullS u A c 0 m) ∧ Is .f32 r1 (pullS u A c 1 m) ∧ Is .f32 r2 (pullS u A c 2 m)) ∧ Below w.heap.size w w' := by
  have h16 : m ≤ 16 := by
    unfold areB at hA
    simp only [Bool.and_eq_true, decide_eq_true_eq] at hA
    exact hA.1
  rcases Nat.eq_zero_or_pos m with rfl | hp
  · obtain ⟨a, cap, rfl⟩ : ∃ a cap, s = .slice a 0 cap := by
      rcases hR with ⟨_, h⟩ | ⟨g, cc, r, h, _⟩
      · exact h
      · exact ⟨_, _, h⟩
    refine (iSumC0 _ _ a cap w).mono ?_
    rintro _ w' ⟨rfl, hb⟩
    exact ⟨⟨0, 0, 0, rfl, zeroIs, zeroIs, zeroIs⟩, hb⟩
  · rcases hR with ⟨h0, _⟩ | ⟨g, cap, r, rfl, _, _, ho, hi⟩
    · omega
    · have eF : Enters Try.prog 67 := enters_of Try.func67 (by kernel_rfl) rfl
      have h := iSumC 67 #[.pointer (some ⟨ba, 0, none⟩), .pointer (some ⟨bc, 0, none⟩)] (pullI u A c 0) (pullI u A c 1) (pullI u A c 2) g 0 m cap r w h16 ho.1 (ownCells ho) eF
        (fun k hk W hW => pullOne hA hk hi g0 g1 g2 hF ic hc ba bc W (Nat.lt_of_lt_of_le hba hW.size) (Nat.lt_of_lt_of_le hbc hW.size) (by rw [hW.cell hba]; exact k0) (by rw [hW.cell hba]; exact k1) (by rw [hW.cell hba]; exact k2) (by rw [hW.cell hbc]; exact kc))
      rw [sumP_pull, sumP_pull, sumP_pull] at h
      exact h

theorem infoV : (Try.prog.info? 40).map (fun i => (i.size, i.bytes)) = some (3, 12) := by kernel_rfl
theorem zeroVV : (Try.prog.info? 40).map (fun i => i.zero.map Value.cells) = some (some (Array.replicate 3 (.float .f32 0))) := by kernel_rfl

theorem mkVs (n : Nat) (hn : n ≤ 1048576) : ∃ c : Array Value, c.size = 3 * n ∧ (∀ i, i < 3 * n → c[i]? = some (.float .f32 0)) ∧ ∀ w : World, (Instr.makeSlice 68 (.int .i64 (n : Int)) (.int .i64 (n : Int))).run Try.prog w = .ok (.slice (some ⟨w.heap.size, 0, none⟩) n n) (w.alloc (.cells c 40)) := by
  obtain ⟨i, hi, he⟩ := Option.map_eq_some_iff.1 infoV
  obtain ⟨i', hi', hz⟩ := Option.map_eq_some_iff.1 zeroVV
  obtain rfl : i' = i := by rw [hi] at hi'; cases hi'; rfl
  simp only [Prod.mk.injEq] at he
  obtain ⟨hs, hbt⟩ := he
  cases hzz : i'.zero with
  | none => rw [hzz] at hz; simp at hz
  | some z =>
    rw [hzz] at hz
    simp only [Option.map_some, Option.some.injEq] at hz
    refine ⟨madeCells z.cells (n * 3), ?_, ?_, ?_⟩
    · simp [size_madeCells]; omega
    · intro j hj
      have : j % 3 < 3 := Nat.mod_lt _ (by decide)
      have hj' : j < n * 3 := by omega
      simp [madeCells, hz, hj']
      rw [getElem!_pos _ _ (by simpa using this)]
      simp
    · intro w
      rw [run_make w 68 40 i' z Try.underlying68 hi hzz .i64 .i64 n n (by omega) (by omega) (by rw [hbt]; omega) (by omega), hs, Int.toNat_natCast]

/-- What a region holds that ends in a store into the row g: what was there is as it was, and so is the block D. -/
def PllS (w W : World) (D x0 x1 x2 : Nat) (w' : World) : Prop := Below w.heap.size w w' ∧ W.heap.size ≤ w'.heap.size ∧ w'.cell? ⟨D, 0, none⟩ = some (.float .f32 x0) ∧ w'.cell? ⟨D, 1, none⟩ = some (.float .f32 x1) ∧ w'.cell? ⟨D, 2, none⟩ = some (.float .f32 x2)
theorem PllS.at {w W X Y : World} {D x0 x1 x2 : Nat} (h : PllS w W D x0 x1 x2 X) (g : Below X.heap.size X Y) (hD : D < W.heap.size) : PllS w W D x0 x1 x2 Y := by
  obtain ⟨a, b, c0, c1, c2⟩ := h
  have hD' : D < X.heap.size := by omega
  exact ⟨a.trans (g.mono a.size), Nat.le_trans b g.size, (g.cell (p := ⟨D, 0, none⟩) hD').trans c0, (g.cell (p := ⟨D, 1, none⟩) hD').trans c1, (g.cell (p := ⟨D, 2, none⟩) hD').trans c2⟩
theorem PllS.drew {w W X : World} {D x0 x1 x2 : Nat} (h : PllS w W D x0 x1 x2 X) : PllS w W D x0 x1 x2 X.drew := ⟨h.1.drew, h.2⟩
theorem PllS.set {w W X : World} {D g x0 x1 x2 : Nat} (h : PllS w W D x0 x1 x2 X) (hg : w.heap.size ≤ g) (hne : g ≠ D) (o : Nat) (v : Value) : PllS w W D x0 x1 x2 (X.setCell ⟨g, o, none⟩ v) := by
  obtain ⟨a, b, c0, c1, c2⟩ := h
  have ne : ∀ q, (⟨g, o, none⟩ : Addr) ≠ ⟨D, q, none⟩ := fun q h => hne (by cases h; rfl)
  exact ⟨a.setCell hg _, by simpa using b, by rw [World.cell?_setCell_other _ _ _ _ (ne 0), c0], by rw [World.cell?_setCell_other _ _ _ _ (ne 1), c1], by rw [World.cell?_setCell_other _ _ _ _ (ne 2), c2]⟩

set_option maxHeartbeats 3200000 in
theorem iPulls (b off n cap : Nat) (f : Nat → Nat) (v : Nat → Option Nat) (hc : n ≤ cap) (hc2 : cap ≤ maxLen) {x : Nat} {c : Option Nat} (ix : Is .f32 x c) (w : World) (hn : n ≤ 1048576) (hb : b < w.heap.size) (hr : ∀ i, i < 7 * n → w.cell? ⟨b, off + i, none⟩ = some (.float .f32 (f i))) (hv : ∀ i, i < 7 * n → Is .f32 (f i) (v i)) :
    Calls Try.prog 54 #[.slice (some ⟨b, off, none⟩) n cap, .float .f32 x] w (RetVecs (plV v c n) n (plB v c n) w) := by
  have HA := iAre b off n cap f v w hn hb hr hv
  have CL := fun W => iLeast ix W
  have HR := Lib.hid hr
  have HV := Lib.hid hv
  clear hr hv
  cases hA : areB v n with
  | false =>
    rw [show plB v c n = false by simp [plB, hA]]
    rw [hA] at HA
    go_enter Try.func54, Try.ntmps54
    go_wp2_with (first | (go_at_call 16; refine (HA).mono ?_; rintro _ W1 ⟨rfl, b1⟩) | (go_at_call 42; refine (CL _).mono ?_; rintro eq wq ⟨nq, rfl, rfl⟩))
    go_ret2
    exact RetVecs.no b1
  | true =>
    cases hL : leastB c with
    | false =>
      rw [show plB v c n = false by simp [plB, hL]]
      rw [hA] at HA
      rw [hL] at CL
      go_enter Try.func54, Try.ntmps54
      go_wp2_with (first | (go_at_call 16; refine (HA).mono ?_; rintro _ W1 ⟨rfl, b1⟩) | (go_at_call 42; refine (CL _).mono ?_; rintro eq wq ⟨nq, rfl, rfl⟩))
      go_ret2
      exact RetVecs.no (below_drewN b1 _)
    | true =>
      rw [show plB v c n = plAll v c n n by simp [plB, hA, hL]]
      rw [hA] at HA
      rw [hL] at CL
      have HAA := Lib.hid hA
      have HLL := Lib.hid hL
      have HC := Lib.hid hc
      have HC2 := Lib.hid hc2
      clear hA hL hc hc2
      obtain ⟨cs, hcs, hcv, hmk⟩ := mkVs n hn
      have hst := run_store_float Try.prog
      go_enter Try.func54, Try.ntmps54
      go_wp2_with (first | (go_at_call 16; refine (HA).mono ?_; rintro _ W1 ⟨rfl, b1⟩) | (go_at_call 42; refine (CL _).mono ?_; rintro eq wq ⟨nq, rfl, rfl⟩))
      have hD := (below_drewN b1 nq).size
      have b2 : Below w.heap.size w ((W1.drewN nq).alloc (.cells cs 40)) := (below_drewN b1 nq).alloc hD _
      have hO0 : Own ((W1.drewN nq).alloc (.cells cs 40)) W1.heap.size (3 * n) (wordV fun _ => 0) := by
        simpa using Own.of_row (hcs ▸ World.rowIs_alloc (W1.drewN nq) cs _ _ (fun i hi => hcv i (hcs ▸ hi)))
      have hgw : w.heap.size ≤ W1.heap.size := b1.size
      clear b1 hD
      go_loopw [22] (fun i wr => ∃ (k : Nat) (r : Nat → Nat), k ≤ n ∧ i = .int .i64 k ∧ Own wr W1.heap.size (3 * n) (wordV r) ∧ (∀ i, i < 3 * k → Is .f32 (r i) (plV v c n i)) ∧ plAll v c n k = true ∧ Below w.heap.size w wr) (fun i _ => n - (intOf i).toNat)
      case atStart => exact ⟨0, fun _ => 0, Nat.zero_le _, rfl, hO0, fun i hi => by omega, rfl, b2⟩
      case round =>
        clear hO0 b2 hmk hcv hcs
        obtain ⟨k, r, hk, rfl, ho, hi, hp, hbel⟩ := hrel
        generalize W1.heap.size = g at *
        have HO := Lib.hid ho
        have HI := Lib.hid hi
        have HP := Lib.hid hp
        obtain ⟨X, rfl⟩ : ∃ X, X = wr := ⟨wr, rfl⟩
        by_cases hlt : k < n
        · obtain ⟨c0, c1, c2, c3, c4, c5, c6⟩ := cells7 HR.out hlt
          rw [← hbel.cell (by exact hb)] at c0 c1 c2 c3 c4 c5 c6
          have hz := hbel.size
          have hb2 : b < X.heap.size := by omega
          have hgX := ho.1
          clear ho hi hp
          go_wp2_with fail
          have i0 : Is .f32 (f (7 * k)) (plA v k 0) := HV.out (7 * k) (by omega)
          have i1 : Is .f32 (f (7 * k + 1)) (plA v k 1) := HV.out (7 * k + 1) (by omega)
          have i2 : Is .f32 (f (7 * k + 2)) (plA v k 2) := HV.out (7 * k + 2) (by omega)
          have hF : finV (plA v k 0) (plA v k 1) (plA v k 2) = true := by
            obtain ⟨z0, z1, z2, -⟩ := fin_at HAA.out hlt
            unfold finV plA
            simp only [Nat.add_zero, z0, z1, z2, Bool.and_self]
          have eJ : ∀ j, j < 3 → pullS (dropV v k) (plA v k) c j (n - 1) = plV v c n (3 * k + j) := fun j hj => by
            rw [plV_at v c n k j hj, ← pull_drop v (plA v k) c j hj k n]
            unfold keptN
            rw [if_neg (by omega)]
          have eJ0 := eJ 0 (by decide)
          have eJ1 := eJ 1 (by decide)
          have eJ2 := eJ 2 (by decide)
          rw [Nat.add_zero] at eJ0
          have HJ := Lib.hid (And.intro eJ0 (And.intro eJ1 eJ2))
          clear eJ eJ0 eJ1 eJ2 c0 c1 c2 c3 c4 c5 c6
          generalize hW : X.alloc (Obj.cells #[.float .f32 (f (7 * k)), .float .f32 (f (7 * k + 1)), .float .f32 (f (7 * k + 2)), .float .f32 (f (7 * k + 3)), .float .f32 (f (7 * k + 4)), .float .f32 (f (7 * k + 5)), .float .f32 (f (7 * k + 6))] 42) = W
          have hDW : X.heap.size < W.heap.size := by rw [← hW]; simp
          have bW : Below w.heap.size w W := by rw [← hW]; exact hbel.alloc hz _
          have hOW : Own W g (3 * n) (wordV r) := by rw [← hW]; exact HO.out.alloc _
          have d0 : W.cell? ⟨X.heap.size, 0, none⟩ = some (.float .f32 (f (7 * k))) := by rw [← hW]; simp
          have d1 : W.cell? ⟨X.heap.size, 1, none⟩ = some (.float .f32 (f (7 * k + 1))) := by rw [← hW]; simp
          have d2 : W.cell? ⟨X.heap.size, 2, none⟩ = some (.float .f32 (f (7 * k + 2))) := by rw [← hW]; simp
          clear hW
          have hS0 : PllS w W X.heap.size (f (7 * k)) (f (7 * k + 1)) (f (7 * k + 2)) W := ⟨bW, Nat.le_refl _, d0, d1, d2⟩
          have HOW := Lib.hid hOW
          have bD := bW.drew
          clear hOW d0 d1 d2
          refine wp_region_held_drew (S := PllS w W X.heap.size (f (7 * k)) (f (7 * k + 1)) (f (7 * k + 2))) (by kernel_rfl) hS0.drew (fun hHeld => ?_)
          (refine wpTake (i := 0) (some 27) (v := ?_) rfl (by rfl) (by kernel_rfl) (by kernel_rfl) (by kernel_rfl) (fun _ _ _ h => h) (Or.inl ⟨by rfl, ?_⟩) hHeld ?_; rotate_left; (focus (intro wx hSw; obtain ⟨hSA, hSB, hS0, hS1, hS2⟩ := hSw; (try dsimp only); go_simp; (try with_reducible rfl))); (simp only [Act.put, List.setIfInBounds_toArray, List.set_cons_zero, List.set_cons_succ]))
          (refine wpTake (i := 1) (some 28) (v := ?_) rfl (by rfl) (by kernel_rfl) (by kernel_rfl) (by kernel_rfl) (fun _ _ _ h => h) (Or.inl ⟨by rfl, ?_⟩) hHeld ?_; rotate_left; (focus (intro wx hSw; obtain ⟨hSA, hSB, hS0, hS1, hS2⟩ := hSw; (try dsimp only); go_simp; (try with_reducible rfl))); (simp only [Act.put, List.setIfInBounds_toArray, List.set_cons_zero, List.set_cons_succ]))
          (refine wpTake (i := 2) (some 29) (v := ?_) rfl (by rfl) (by kernel_rfl) (by kernel_rfl) (by kernel_rfl) (fun _ _ _ h => h) (Or.inl ⟨by rfl, ?_⟩) hHeld ?_; rotate_left; (focus (intro wx hSw; obtain ⟨hSA, hSB, hS0, hS1, hS2⟩ := hSw; (try dsimp only); go_simp; (try with_reducible rfl))); (simp only [Act.put, List.setIfInBounds_toArray, List.set_cons_zero, List.set_cons_succ]))
          (refine wpTake (i := 3) (some 30) (v := ?_) rfl (by rfl) (by kernel_rfl) (by kernel_rfl) (by kernel_rfl) (fun _ _ _ h => h) (Or.inl ⟨by rfl, ?_⟩) hHeld ?_; rotate_left; (focus (intro wx hSw; obtain ⟨hSA, hSB, hS0, hS1, hS2⟩ := hSw; (try dsimp only); go_simp; (try with_reducible rfl))); (simp only [Act.put, List.setIfInBounds_toArray, List.set_cons_zero, List.set_cons_succ]))
          (refine wpTake (i := 5) (some 32) (v := ?_) rfl (by rfl) (by kernel_rfl) (by kernel_rfl) (by kernel_rfl) (fun _ _ _ h => h) (Or.inl ⟨by rfl, ?_⟩) hHeld ?_; rotate_left; (focus (intro wx hSw; obtain ⟨hSA, hSB, hS0, hS1, hS2⟩ := hSw; (try dsimp only); go_simp; (try with_reducible rfl))); (simp only [Act.put, List.setIfInBounds_toArray, List.set_cons_zero, List.set_cons_succ]))
          (refine wpTake (i := 6) (some 33) (v := ?_) rfl (by rfl) (by kernel_rfl) (by kernel_rfl) (by kernel_rfl) (fun _ _ _ h => h) (Or.inl ⟨by rfl, ?_⟩) hHeld ?_; rotate_left; (focus (intro wx hSw; obtain ⟨hSA, hSB, hS0, hS1, hS2⟩ := hSw; (try dsimp only); go_simp; (try with_reducible rfl))); (simp only [Act.put, List.setIfInBounds_toArray, List.set_cons_zero, List.set_cons_succ]))
          (refine wpTake (i := 7) (some 34) (v := ?_) rfl (by rfl) (by kernel_rfl) (by kernel_rfl) (by kernel_rfl) (fun _ _ _ h => h) (Or.inl ⟨by rfl, ?_⟩) hHeld ?_; rotate_left; (focus (intro wx hSw; obtain ⟨hSA, hSB, hS0, hS1, hS2⟩ := hSw; (try dsimp only); go_simp; (try with_reducible rfl))); (simp only [Act.put, List.setIfInBounds_toArray, List.set_cons_zero, List.set_cons_succ]))
          (refine wpAnyH_ready (rs := [4]) (by kernel_rfl) (by simp) ?_; refine AllReadyH.cons rfl (fun K hK => ?_) AllReadyH.nil; go_simp)
          (go_at_call 25; (with_reducible refine (iWithout b off n cap k f v _ hn hlt HC.out HC2.out (Nat.lt_of_lt_of_le hb bD.size) (fun i hi => (bD.cell (p := ⟨b, off + i, none⟩) hb).trans (HR.out i hi)) HV.out).mono ?_); rintro _ W2 ⟨⟨s, rfl, hRow⟩, e2⟩)
          (go_wp2_with fail; refine hK.out _ _ (hHeld.at e2 hDW) (fun hHeld => ?_); clear hK K; (try simp only [Act.put, List.setIfInBounds_toArray, List.set_cons_zero, List.set_cons_succ]))
          (refine wpAnyH_ready (rs := [8]) (by kernel_rfl) (by simp) ?_; refine AllReadyH.cons rfl (fun K hK => ?_) AllReadyH.nil; go_simp)
          (go_at_call 63; (with_reducible refine (iPullsTo _).mono ?_); rintro _ W3 ⟨rfl, e3, s3, q0, q1, q2, q3⟩)
          (go_wp2_with fail; refine hK.out _ _ (hHeld.at e3 hDW) (fun hHeld => ?_); clear hK K; (try simp only [Act.put, List.setIfInBounds_toArray, List.set_cons_zero, List.set_cons_succ]))
          (refine wpAnyH_ready (rs := [9]) (by kernel_rfl) (by simp) ?_; refine AllReadyH.cons rfl (fun K hK => ?_) AllReadyH.nil; go_simp)
          (go_at_call 62; (with_reducible refine (iSumRow (u := dropV v k) (A := plA v k) (c := c) W3 (hRow.step e3) (drop_are HAA.out hlt) i0 i1 i2 hF ix HLL.out (by omega) s3 q0 q1 q2 q3).mono ?_); rintro _ W4 ⟨⟨t0, t1, t2, rfl, j0, j1, j2⟩, e4⟩)
          (go_wp2_with fail; refine hK.out _ _ (hHeld.at e4 hDW) (fun hHeld => ?_); clear hK K; (try simp only [Act.put, List.setIfInBounds_toArray, List.set_cons_zero, List.set_cons_succ]))
          (refine wpTake (i := 10) (some 37) (v := ?_) rfl (by rfl) (by kernel_rfl) (by kernel_rfl) (by kernel_rfl) (fun _ _ _ h => h) (Or.inl ⟨by rfl, ?_⟩) hHeld ?_; rotate_left; (focus (intro wx hSw; obtain ⟨hSA, hSB, hS0, hS1, hS2⟩ := hSw; (try dsimp only); go_simp; (try with_reducible rfl))); (simp only [Act.put, List.setIfInBounds_toArray, List.set_cons_zero, List.set_cons_succ]))
          have hO4 : Own W4 g (3 * n) (wordV r) := (((HOW.out.step (Below.refl _ _).drew).step e2).step e3).step e4
          obtain ⟨u0, u1, u2⟩ := ov3 hO4 hlt
          have uf : ∀ o, W4.frozen? ⟨g, o, none⟩ = false := hO4.2.2
          have hgD : g ≠ X.heap.size := by omega
          rw [HJ.out.1] at j0
          rw [HJ.out.2.1] at j1
          rw [HJ.out.2.2] at j2
          (refine wpAnyH_ready (rs := [11]) (by kernel_rfl) (by simp) ?_; refine AllReadyH.cons rfl (fun K hK => ?_) AllReadyH.nil; go_simp)
          refine hK.out _ _ (((hHeld.set hgw hgD _ _).set hgw hgD _ _).set hgw hgD _ _) (fun hHeld => ?_)
          clear hK K
          (try simp only [Act.put, List.setIfInBounds_toArray, List.set_cons_zero, List.set_cons_succ])
          (refine wpAnyH_done (by kernel_rfl) ?_ _)
          have hO5 := oset3 hO4 hlt (g' := wordV fun j => if j = 3 * k then t0 else if j = 3 * k + 1 then t1 else if j = 3 * k + 2 then t2 else r j) (v0 := .float .f32 t0) (v1 := .float .f32 t1) (v2 := .float .f32 t2) (by simp [wordV]) (by simp [wordV]) (by simp [wordV]) (fun j hj h => by
            have e0 : ¬ j = 3 * k := by omega
            have e1 : ¬ j = 3 * k + 1 := by omega
            have e2 : ¬ j = 3 * k + 2 := by omega
            simp [wordV, e0, e1, e2])
          have b5 : Below w.heap.size w (((W4.setCell ⟨g, k * 3, none⟩ (.float .f32 t0)).setCell ⟨g, k * 3 + 1, none⟩ (.float .f32 t1)).setCell ⟨g, k * 3 + 2, none⟩ (.float .f32 t2)) := by
            refine Below.setCell (Below.setCell (Below.setCell ?_ hgw _) hgw _) hgw _
            exact ((bD.trans (e2.mono bD.size)).trans (e3.mono (bD.trans (e2.mono bD.size)).size)).trans (e4.mono ((bD.trans (e2.mono bD.size)).trans (e3.mono (bD.trans (e2.mono bD.size)).size)).size)
          clear hHeld u0 u1 u2 uf hO4 e2 e3 e4 q0 q1 q2 q3 s3 hRow bD
          generalize (((W4.setCell ⟨g, k * 3, none⟩ (.float .f32 t0)).setCell ⟨g, k * 3 + 1, none⟩ (.float .f32 t1)).setCell ⟨g, k * 3 + 2, none⟩ (.float .f32 t2)) = W5 at hO5 b5 ⊢
          obtain ⟨u0, u1, u2⟩ := ov3 hO5 hlt
          simp only [wordV, if_true] at u0 u1 u2
          have e01 : ¬ 3 * k + 1 = 3 * k := by omega
          have e02 : ¬ 3 * k + 2 = 3 * k := by omega
          have e12 : ¬ 3 * k + 2 = 3 * k + 1 := by omega
          simp only [e01, e02, e12, if_false] at u1 u2
          have hg5 := hO5.1
          have VF := fun W => iFinV j0 j1 j2 W
          have eO : finV (plV v c n (3 * k)) (plV v c n (3 * k + 1)) (plV v c n (3 * k + 2)) = plOne v c n k := rfl
          rw [eO] at VF
          have HO5 := Lib.hid hO5
          clear hO5 HO eO
          cases hO : plOne v c n k with
          | false =>
            rw [hO] at VF
            have hno : plAll v c n n = false := plAll_no hO hlt
            have HNO := Lib.hid hno
            clear hO hno
            go_wp2_with (go_at_call 41; refine (VF _).mono ?_; rintro _ W6 ⟨rfl, b6⟩)
            go_ret2
            rw [HNO.out]
            exact RetVecs.no (b5.trans (b6.1.mono b5.size))
          | true =>
            rw [hO] at VF
            have HNO := Lib.hid (show plAll v c n (k + 1) = true by simp [plAll, HP.out, hO])
            clear hO
            go_wp2_with (go_at_call 41; refine (VF _).mono ?_; rintro _ W6 ⟨rfl, b6⟩)
            go_roundw
            case rel =>
              refine ⟨k + 1, _, by omega, by go_num, HO5.out.step b6.1, ?_, HNO.out, b5.trans (b6.1.mono b5.size)⟩
              intro i hi
              (try dsimp only)
              have hc : i < 3 * k ∨ i = 3 * k ∨ i = 3 * k + 1 ∨ i = 3 * k + 2 := by omega
              rcases hc with hc | rfl | rfl | rfl
              · have f0 : ¬ i = 3 * k := by omega
                have f1 : ¬ i = 3 * k + 1 := by omega
                have f2 : ¬ i = 3 * k + 2 := by omega
                simp only [f0, f1, f2, if_false]
                exact HI.out i hc
              · rw [if_pos rfl]; exact j0
              · rw [if_neg e01, if_pos rfl]; exact j1
              · rw [if_neg e02, if_neg e12, if_pos rfl]; exact j2
            case measure => simp [intOf]; omega
        · have hkn : Hid (k = n) := (show k = n by omega)
          clear ho hi hp
          go_wp2_with fail
          go_ret2
          have hP := HP.out
          rw [hkn.out] at hP
          rw [hP]
          refine ⟨⟨_, rfl, .inr ⟨g, n, r, rfl, hgw, HO.out.1, by simpa using HO.out, ?_⟩⟩, hbel⟩
          intro i hi
          exact HI.out i (by rw [hkn.out]; simpa using hi)
end Go.Proofs.Ytjljdnkedbejaaa
