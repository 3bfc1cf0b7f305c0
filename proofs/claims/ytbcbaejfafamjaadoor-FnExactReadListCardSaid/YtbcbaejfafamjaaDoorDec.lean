/-
  A number in decimal, of the model: its digits one after another ahead of those that are there. The result is the numeral, for every number; nothing that was there is written. No condition but that the number fits 64 bits.
-/
import Derived.Test.YtbcbaejfafamjaaDoorBase
import Derived.Lib.ItoaLen
import Derived.Lib.ItoaMem
import Derived.Lib.Hide
import Derived.Laws.BytesArg
import Derived.Deep.AppendLies
import Derived.WalkKit
namespace Go.Proofs.YtbcbaejfafamjaaDoor
open Go.RowKit

/-- The number with the sign of n. -/
def sg (neg : Bool) (x : Nat) : Int := if neg then -(x : Int) else x

/-- The last k digits of u, the first ahead. -/
def digs (u : Nat) : Nat → List Int
  | 0 => []
  | k + 1 => ((48 + u / 10 ^ k % 10 : Nat) : Int) :: digs u k
theorem digs_length (u : Nat) : ∀ k, (digs u k).length = k
  | 0 => rfl
  | k + 1 => by simp [digs, digs_length u k]

theorem digs_eq (u : Nat) : ∀ k, digs u k = (List.range k).map fun t => ((48 + u / 10 ^ (k - 1 - t) % 10 : Nat) : Int)
  | 0 => rfl
  | k + 1 => by
    rw [digs, digs_eq u k, List.range_succ_eq_map, List.map_cons, List.map_map]
    congr 1
    refine List.map_congr_left fun t ht => ?_
    have : t < k := List.mem_range.1 ht
    simp only [Function.comp]
    rw [show k + 1 - 1 - (t + 1) = k - 1 - t from by omega]

theorem digs_numeral (u : Nat) : (digs u (Lib.nDigits u)).map (fun n => UInt8.ofNat n.toNat) = Lib.decDigits u := by
  rw [digs_eq, Lib.decDigits_eq, List.map_map]
  refine List.map_congr_left fun t _ => ?_
  simp only [Function.comp, Int.toNat_natCast]
  rfl

/-- As long as digits are left, there are more. -/
theorem more_digits (u k : Nat) : (k = 0 ∨ u / 10 ^ k ≠ 0) ↔ k < Lib.nDigits u := by
  have h1 := Lib.lt_pow_nDigits u
  have h2 := Lib.nDigits_pos u
  constructor
  · rintro (h | h)
    · omega
    · apply Classical.byContradiction
      intro hne
      exact h (Nat.div_eq_of_lt (Nat.lt_of_lt_of_le h1 (Nat.pow_le_pow_right (by decide) (by omega))))
  · intro hk
    by_cases h0 : k = 0
    · exact .inl h0
    · right
      intro hz
      have hlt : u < 10 ^ k := by
        rcases Nat.lt_or_ge u (10 ^ k) with h | h
        · exact h
        · have := Nat.div_pos h (Nat.pow_pos (by decide)); omega
      obtain ⟨j, hj1, hj2⟩ : ∃ j, j < k ∧ Lib.nDigits u = j + 1 := by
        have key : ∀ k, 1 ≤ k → u < 10 ^ k → ∃ j, j < k ∧ Lib.nDigits u = j + 1 := by
          intro k
          induction k with
          | zero => intro h; omega
          | succ k ih =>
            intro _ hu
            by_cases hk0 : k = 0
            · subst hk0
              exact ⟨0, by omega, by rw [Lib.nDigits_small (by simpa using hu)]⟩
            · by_cases hlt : u < 10 ^ k
              · obtain ⟨j, hj, he⟩ := ih (by omega) hlt
                exact ⟨j, by omega, he⟩
              · exact ⟨k, by omega, Lib.nDigits_unique k u (by omega) hu⟩
        exact key k (by omega) hlt
      omega

def lenOf : Value → Nat
  | .slice _ n _ => n
  | _ => 0

theorem ownsRow_one (w : World) (base : Nat) (e : TypeId) (c : Value) (hb : base ≤ w.heap.size) : (w.alloc (.cells #[c] e)).ownsRow base e 1 (.slice (some ⟨w.heap.size, 0, none⟩) 1 1) 1 [c] :=
  ⟨rfl, .inr ⟨w.heap.size, 1, #[c], rfl, hb, heap_alloc_new w _, Nat.le_refl _, by decide, rfl, rfl⟩⟩
theorem ownsRow_zero (w : World) (base : Nat) (e : TypeId) (hb : base ≤ w.heap.size) : (w.alloc (.cells #[] e)).ownsRow base e 1 (.slice (some ⟨w.heap.size, 0, none⟩) 0 0) 0 [] :=
  World.ownsRow_made w #[] 0 hb (Nat.zero_le _) rfl

/-- 'append' onto a slice that the call owns, where the new one is not empty: the new value written out. -/
theorem wpList_append_form {P : Program} {w : World} {ops : Array Oper} {rest : List Oper} {o : Oper} {a : Act} {Q : Exit → Act → World → Prop} (hgd : o.guard = none) (s x : Operand) (t : TypeId)
    (ho : o.op = .call { callee := .builtin .append, args := #[s, x], argTypes := #[t, t] })
    (base : Nat) (e : TypeId) (i : TypeInfo) (z : Value) (size bytes : Nat) (ht : P.underlying t = some (.slice e)) (hi : P.info? e = some i) (hz : i.zero = some z)
    (hsize : i.size = size) (hby : i.bytes = bytes) (hzs : z.cells.size = size) (hsz : 0 < size)
    (v : Value) (n : Nat) (xs : List Value) (hs : a.eval s = v) (hown : w.ownsRow base e size v n xs)
    (ad : Addr) (m c : Nat) (news : List Value) (hx : a.eval x = .slice (some ad) m c) (hl : news.length = m * size) (hnews : ∀ j u, news[j]? = some u → w.cell? (ad.add j) = some u) (h1 : ∀ u ∈ news, u.oneCell' = true)
    (h63 : n + m ≤ maxLen) (hbytes : (n + m) * bytes ≤ 140737488355328) (hbase : base ≤ w.heap.size) (hp : 0 < n + m)
    (h : ∀ g cap w', w'.ownsRow base e size (.slice (some ⟨g, 0, none⟩) (n + m) cap) (n + m) (xs ++ news) → w.grownBy w' v.ownBlock → wpList P ops Q rest (a.put o.dst (.slice (some ⟨g, 0, none⟩) (n + m) cap)) w') : wpList P ops Q (o :: rest) a w := by
  refine wpList_append_own w hgd s x t ho base e i z size bytes ht hi hz hsize hby hzs hsz v n xs hs hown ad m c news hx hl hnews h1 h63 hbytes hbase fun v' w' h2 h3 _ => ?_
  obtain ⟨g, cap, rfl, _, hlt⟩ := h2.form hp
  exact h g cap w' h2 h3

theorem info5 : (Tryd.prog.info? 5).map (fun i => (i.zero, i.size, i.bytes)) = some (some (.int .u8 0), 1, 1) := by kernel_rfl

def cellsD (u k : Nat) : List Value := (digs u k).map (Value.int .u8)
theorem cellsD_length (u k : Nat) : (cellsD u k).length = k := by simp [cellsD, digs_length]

theorem sg_div (neg : Bool) (q : Nat) : (sg neg q).tdiv 10 = sg neg (q / 10) := by
  unfold sg
  cases neg
  · exact (Int.ofNat_tdiv q 10).symm
  · simp only [if_true, Int.neg_tdiv]
    congr 1
theorem sg_ne (neg : Bool) {q : Nat} (h : q ≠ 0) : ¬ sg neg q = 0 := by
  unfold sg
  cases neg <;> simp <;> omega
theorem sg_mod (neg : Bool) (q : Nat) : ((sg neg q).tmod 10 < 0 ∧ -((sg neg q).tmod 10) = ((q % 10 : Nat) : Int)) ∨ (¬ (sg neg q).tmod 10 < 0 ∧ (sg neg q).tmod 10 = ((q % 10 : Nat) : Int)) := by
  unfold sg
  cases neg
  · right
    simp only [Bool.false_eq_true, if_false]
    have : ((q : Int)).tmod 10 = ((q % 10 : Nat) : Int) := (Int.ofNat_tmod q 10).symm
    rw [this]
    exact ⟨by omega, rfl⟩
  · simp only [if_true, Int.neg_tmod]
    have : ((q : Int)).tmod 10 = ((q % 10 : Nat) : Int) := (Int.ofNat_tmod q 10).symm
    rw [this]
    by_cases h : q % 10 = 0
    · right; rw [h]; simp
    · left; omega

theorem sg_wrap (neg : Bool) (u : Nat) {q : Nat} (hu : neg = true → u ≠ 0) (h0 : -9223372036854775808 ≤ sg neg u) (h1 : sg neg u ≤ 9223372036854775807) (hq : q ≤ u) : wrap64 (sg neg q) = sg neg q := by
  have _ := hu
  have l : -9223372036854775808 ≤ sg neg q ∧ sg neg q ≤ 9223372036854775807 := by cases neg <;> simp [sg] at h0 h1 ⊢ <;> omega
  generalize sg neg q = r at l
  unfold wrap64
  omega
theorem cellsD_one (u k : Nat) : ∀ c ∈ cellsD u k, c.oneCell' = true := by
  intro c hc
  unfold cellsD at hc
  obtain ⟨z, _, rfl⟩ := List.mem_map.1 hc
  rfl

theorem conv_own {w : World} {base g n cap : Nat} {zs : List Int} (h : w.ownsRow base 5 1 (.slice (some ⟨g, 0, none⟩) n cap) n (zs.map (Value.int .u8))) :
    (convert 92 9 (.slice (some ⟨g, 0, none⟩) n cap)).run Tryd.prog w = .ok (.string (strOfNums zs)) w := by
  have hl : zs.length = n := by have := h.1; simpa using this
  refine run_convert_bytes_arg w _ _ Tryd.underlying92 Tryd.underlying5 g 0 n cap zs hl (fun i hi => ?_) _ Tryd.underlying9
  have := h.cells (g := g) rfl i (.int .u8 (zs.getD i 0)) (by simp [List.getElem?_eq_getElem (show i < zs.length by omega)])
  rw [Lib.add_plain] at this
  exact this

set_option maxHeartbeats 1600000 in
theorem specDec (n : Int) (h0 : -9223372036854775808 ≤ n) (h1 : n ≤ 9223372036854775807) (w : World) :
    Calls Tryd.prog 58 #[.int .i64 n] w fun e w' => e = .returned (.string ⟨(Lib.itoa n).toArray⟩) ∧ Below w.heap.size w w' := by
  obtain ⟨neg, u, rfl, hu⟩ : ∃ neg u, n = sg neg u ∧ (neg = true → u ≠ 0) := by
    by_cases hn : n < 0
    · exact ⟨true, n.natAbs, by unfold sg; simp; omega, fun _ => by omega⟩
    · exact ⟨false, n.toNat, by unfold sg; simp; omega, fun h => by cases h⟩
  have hu64 : u < 18446744073709551616 := by cases neg <;> simp [sg] at h0 h1 <;> omega
  have h20 := Lib.nDigits_le20 u hu64
  obtain ⟨i0, hi, hz0, hz1, hz2⟩ := info_parts info5
  go_enter Tryd.func58, Tryd.ntmps58
  go_wp2
  go_loopw [3, 4, 5] (fun out rest d wr => ∃ k g cap : Nat, k ≤ Lib.nDigits u ∧ out = .slice (some ⟨g, 0, none⟩) k cap ∧ rest = .int .i64 (sg neg (u / 10 ^ k)) ∧ wr.ownsRow w.heap.size 5 1 out k (cellsD u k) ∧ Below w.heap.size w wr) (fun out _ _ _ => Lib.nDigits u - lenOf out)
  case atStart => exact ⟨0, w.heap.size, 0, Nat.zero_le _, rfl, by simp, ownsRow_zero w _ _ (Nat.le_refl _), (Below.refl _ _).alloc (Nat.le_refl _) _⟩
  case round =>
    obtain ⟨k, g, cap, hk, rfl, rfl, hown, hb⟩ := hrel
    have hbs := hb.size
    by_cases hlt : k < Lib.nDigits u
    · have hm := (more_digits u k).2 hlt
      have hq : u / 10 ^ k < 18446744073709551616 := Nat.lt_of_le_of_lt (Nat.div_le_self _ _) hu64
      have hq1 : u / 10 ^ (k + 1) = u / 10 ^ k / 10 := by rw [Nat.pow_succ, Nat.div_div_eq_div_mul]
      have hD : cellsD u (k + 1) = [.int .u8 ((48 + u / 10 ^ k % 10 : Nat) : Int)] ++ cellsD u k := by unfold cellsD; rw [digs, List.map_cons]; rfl
      have hqu : u / 10 ^ k ≤ u := Nat.div_le_self _ _
      generalize u / 10 ^ k = q at hm hq hq1 hD hqu
      obtain ⟨r, hr⟩ : ∃ r : Int, r = sg neg q := ⟨_, rfl⟩
      obtain ⟨x, hx⟩ : ∃ x : Int, x = ((q % 10 : Nat) : Int) := ⟨_, rfl⟩
      obtain ⟨r2, hr2⟩ : ∃ r2 : Int, r2 = sg neg (q / 10) := ⟨_, rfl⟩
      have x0 : 0 ≤ x := by omega
      have x9 : x ≤ 9 := by omega
      have f2 : r.tdiv 10 = r2 := by rw [hr, hr2]; exact sg_div neg q
      have f0 : 0 < k → ¬ r = 0 := fun h => by rw [hr]; exact sg_ne neg (hm.resolve_left (by omega))
      have hD' : cellsD u (k + 1) = [.int .u8 (48 + x)] ++ cellsD u k := by rw [hD, hx]; congr 2
      have hR : sg neg (u / 10 ^ (k + 1)) = r2 := by rw [hq1, hr2]
      have hd : ∃ d : Int, r.tmod 10 = d ∧ ((d < 0 ∧ -d = x) ∨ (¬ d < 0 ∧ d = x)) := by
        refine ⟨_, rfl, ?_⟩
        rw [hr, hx]
        exact sg_mod neg q
      obtain ⟨d, f1, hd⟩ := hd
      rw [← hr]
      have hW : wrap64 r2 = r2 := by rw [hr2]; exact sg_wrap neg u hu h0 h1 (Nat.le_trans (Nat.div_le_self _ _) hqu)
      have HD := Lib.hid hD'
      have HR := Lib.hid hR
      have HW := Lib.hid hW
      have HO := Lib.hid (ownsRow_one wr w.heap.size 5 (.int .u8 (48 + x)) hbs)
      have HC := Lib.hid ((hown.alloc (.cells #[.int .u8 (48 + x)] 5)).cells rfl)
      have H1 := Lib.hid (cellsD_one u k)
      have HB := Lib.hid hb
      clear hq hu64 h0 h1 hr hx hr2 hD hD' hR hq1 hm hown hb hW hqu
      clear q
      rcases Nat.eq_zero_or_pos k with rfl | hkp
      · rcases hd with ⟨hd, he⟩ | ⟨hd, rfl⟩
        · have hd' : decide (d < 0) = true := decide_eq_true hd
          go_wp2_with fail
          go_roundw
          case rel => exact ⟨1, wr.heap.size, 1, by omega, rfl, by rw [HW.out]; exact congrArg _ HR.out.symm, by rw [HD.out]; exact HO.out, HB.out.alloc hbs _⟩
          case measure => simp [lenOf]; omega
        · have hd' : decide (d < 0) = false := decide_eq_false hd
          go_wp2_with fail
          go_roundw
          case rel => exact ⟨1, wr.heap.size, 1, by omega, rfl, by rw [HW.out]; exact congrArg _ HR.out.symm, by rw [HD.out]; exact HO.out, HB.out.alloc hbs _⟩
          case measure => simp [lenOf]; omega
      · have f0' := f0 hkp
        have hk0 : ¬ k = 0 := by omega
        have hk1 : ((k : Int) == 0) = false := by simp; omega
        have hrb : (r != 0) = true := by simp [f0']
        clear f0 f0'
        rcases hd with ⟨hd, he⟩ | ⟨hd, hde⟩
        · have hd' : decide (d < 0) = true := decide_eq_true hd
          go_wp2_with (at_builtin; refine wpList_append_form (by rfl) (.tmp 24) (.tmp 25) 92 (by rfl) w.heap.size 5 i0 (.int .u8 0) 1 1 Tryd.underlying92 hi hz0 hz1 hz2 rfl (by decide) _ 1 [.int .u8 (48 + x)] (by rfl) HO.out ⟨g, 0, none⟩ k cap (cellsD u k) (by rfl) (by simp [cellsD_length]) HC.out H1.out (by unfold maxLen; omega) (by omega) (by simp; omega) (by omega) ?_; intro g' cap' w1 hown' hgrow)
          go_roundw
          case rel => exact ⟨1 + k, g', cap', by omega, rfl, by rw [HW.out, Nat.add_comm 1 k]; exact congrArg _ HR.out.symm, by rw [Nat.add_comm 1 k] at hown' ⊢; rw [HD.out]; exact hown', Below.grown (HB.out.alloc hbs _) hgrow (by simp; omega) (fun j hj => by cases hj; exact hbs)⟩
          case measure => simp [lenOf]; omega
        · have hd' : decide (d < 0) = false := decide_eq_false hd
          obtain rfl := hde.symm
          go_wp2_with (at_builtin; refine wpList_append_form (by rfl) (.tmp 24) (.tmp 25) 92 (by rfl) w.heap.size 5 i0 (.int .u8 0) 1 1 Tryd.underlying92 hi hz0 hz1 hz2 rfl (by decide) _ 1 [.int .u8 (48 + x)] (by rfl) HO.out ⟨g, 0, none⟩ k cap (cellsD u k) (by rfl) (by simp [cellsD_length]) HC.out H1.out (by unfold maxLen; omega) (by omega) (by simp; omega) (by omega) ?_; intro g' cap' w1 hown' hgrow)
          go_roundw
          case rel => exact ⟨1 + k, g', cap', by omega, rfl, by rw [HW.out, Nat.add_comm 1 k]; exact congrArg _ HR.out.symm, by rw [Nat.add_comm 1 k] at hown' ⊢; rw [HD.out]; exact hown', Below.grown (HB.out.alloc hbs _) hgrow (by simp; omega) (fun j hj => by cases hj; exact hbs)⟩
          case measure => simp [lenOf]; omega
    · have hkn : k = Lib.nDigits u := by omega
      have hz : sg neg (u / 10 ^ k) = 0 := by
        rw [hkn, Nat.div_eq_of_lt (Lib.lt_pow_nDigits u)]; cases neg <;> rfl
      have hkp := Lib.nDigits_pos u
      have hk0 : ¬ k = 0 := by omega
      have hk1 : ((k : Int) == 0) = false := by simp; omega
      have hcv := conv_own (zs := digs u k) hown
      have hnum : strOfNums (digs u k) = ⟨(Lib.decDigits u).toArray⟩ := by
        unfold strOfNums; rw [hkn, digs_numeral]
      rw [hz]
      cases neg with
      | false =>
        have hi1 : Lib.itoa (sg false u) = Lib.decDigits u := Lib.itoa_nonneg u
        have hl : decide (sg false u < 0) = false := decide_eq_false (by unfold sg; simp)
        rw [hnum] at hcv
        have HB := Lib.hid hb
        have HI := Lib.hid hi1
        clear hi1 hz h0 h1 hu64 hb hown hkn hkp hlt
        go_wp2_with fail
        go_ret
        exact ⟨by rw [HI.out]; rfl, HB.out⟩
      | true =>
        have hu1 : 1 ≤ u := Nat.pos_of_ne_zero (hu rfl)
        have hi1 : Lib.itoa (sg true u) = 45 :: Lib.decDigits u := Lib.itoa_neg u hu1
        have hl : decide (sg true u < 0) = true := decide_eq_true (by unfold sg; simp; omega)
        have hnum2 : strOfNums (45 :: digs u k) = ⟨(45 :: Lib.decDigits u).toArray⟩ := by
          unfold strOfNums; rw [List.map_cons, hkn, digs_numeral]; rfl
        have HI := Lib.hid hi1
        have HO := Lib.hid (ownsRow_one wr w.heap.size 5 (.int .u8 45) hbs)
        have HC := Lib.hid ((hown.alloc (.cells #[.int .u8 45] 5)).cells rfl)
        have H1 := Lib.hid (cellsD_one u k)
        have HB := Lib.hid hb
        have HN := Lib.hid hnum2
        clear hi1 hz h0 h1 hu64 hb hown hcv hnum hnum2 hkn hkp hlt
        go_wp2_with (at_builtin; go_loud (refine wpList_append_form (by rfl) (.tmp 31) (.tmp 32) 92 (by rfl) w.heap.size 5 i0 (.int .u8 0) 1 1 Tryd.underlying92 hi hz0 hz1 hz2 rfl (by decide) _ 1 [.int .u8 45] (by rfl) HO.out ⟨g, 0, none⟩ k cap (cellsD u k) (by rfl) (by simp [cellsD_length]) HC.out H1.out (by unfold maxLen; omega) (by omega) (by simp; omega) (by omega) ?_); intro g' cap' w1 hown' hgrow; have hcv := conv_own (zs := 45 :: digs u k) hown'; rw [HN.out] at hcv)
        go_ret
        exact ⟨by rw [HI.out]; rfl, Below.grown (HB.out.alloc hbs _) hgrow (by simp; omega) (fun j hj => by cases hj; exact hbs)⟩
end Go.Proofs.YtbcbaejfafamjaaDoor
