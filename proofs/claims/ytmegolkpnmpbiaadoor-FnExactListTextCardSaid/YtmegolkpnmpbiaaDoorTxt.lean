/-
  The text of a list of integers, of the program and of the model. Conditions: what the library's table holds.
-/
import Derived.Test.YtmegolkpnmpbiaaDoorLst
import Derived.Test.YtmegolkpnmpbiaaDoorDecV
import Derived.Test.YtmegolkpnmpbiaaDoorJoin
import Derived.Lib.JoinLaws
namespace Go.Proofs.YtmegolkpnmpbiaaDoor
open Go.RowKit

/-- Whether a number is not too great. -/
def okI (v : Int) : Bool := decide (-1000000000000000 ≤ v) && decide (v ≤ 1000000000000000)
def listOK (f : Nat → Int) (n : Nat) : Bool := (List.range n).all fun i => okI (f i)
/-- The text: the numerals with commas between them. -/
def texts (f : Nat → Int) (n : Nat) : List (List UInt8) := (List.range n).map fun i => Lib.itoa (f i)
def txtL (f : Nat → Int) (n : Nat) : List UInt8 := Lib.join (texts f n) [44]

theorem txtL_one (f : Nat → Int) : txtL f 1 = Lib.itoa (f 0) := by
  show Lib.join [Lib.itoa (f 0)] [44] = _
  rw [Lib.join_one]
theorem txtL_succ (f : Nat → Int) (k : Nat) (hk : 0 < k) : txtL f (k + 1) = txtL f k ++ ([44] ++ Lib.itoa (f k)) := by
  unfold txtL texts
  rw [List.range_succ, List.map_append]
  obtain ⟨j, rfl⟩ : ∃ j, k = j + 1 := ⟨k - 1, by omega⟩
  rw [List.range_succ_eq_map, List.map_cons, List.cons_append, Lib.join_cons, Lib.join_cons]
  simp [Lib.joinTail]

theorem txtL_len (f : Nat → Int) (h : ∀ i, -9223372036854775808 ≤ f i ∧ f i ≤ 9223372036854775807) : ∀ k, 0 < k → (txtL f k).length ≤ 22 * k
  | 1, _ => by rw [txtL_one]; have := Lib.itoa_length_le (f 0) (h 0).1 (h 0).2; omega
  | k + 2, _ => by
    rw [txtL_succ f (k + 1) (by omega)]
    have h1 := txtL_len f h (k + 1) (by omega)
    have := Lib.itoa_length_le (f (k + 1)) (h _).1 (h _).2
    simp only [List.length_append, List.length_cons, List.length_nil]; omega

theorem bytes_of {s : ByteArray} {l : List UInt8} (h : s.data.toList = l) : s = ⟨l.toArray⟩ := by
  subst h; rfl

set_option maxHeartbeats 800000 in
theorem specListOK (b off n cap : Nat) (f : Nat → Int) (w : World) (hn : n ≤ 1048576) (hr : ∀ i, i < n → w.cell? ⟨b, off + i, none⟩ = some (.int .i64 (f i))) :
    Calls Tryd.prog 25 #[.slice (some ⟨b, off, none⟩) n cap] w (RetV (.bool (listOK f n && decide (n ≤ 64))) w) := by
  have HR := Lib.hid hr
  clear hr
  go_enter Tryd.func25, Tryd.ntmps25
  go_wp2
  go_loop [3] (fun i => ∃ k : Nat, k ≤ n ∧ i = .int .i64 k ∧ listOK f k = true) (fun i => n - (intOf i).toNat)
  case atStart => exact ⟨0, Nat.zero_le _, rfl, rfl⟩
  case round =>
    obtain ⟨k, hk, rfl, ho⟩ := hrel
    by_cases hlt : k < n
    · have hc := HR.out k hlt
      by_cases m1 : -1000000000000000 ≤ f k
      · by_cases m2 : f k ≤ 1000000000000000
        · have HO := Lib.hid (show listOK f (k + 1) = true by unfold listOK at ho ⊢; rw [List.range_succ, List.all_append, ho]; simp [okI, m1, m2])
          clear ho
          generalize f k = v at hc m1 m2
          go_wp2_with (go_at_call 42; go_in)
          go_round
          case rel => exact ⟨k + 1, by omega, by go_num, HO.out⟩
          case measure => simp [intOf]; omega
        · have HO := Lib.hid (show listOK f n = false by
            unfold listOK; rw [List.all_eq_false]; exact ⟨k, List.mem_range.2 hlt, by simp [okI, m2]⟩)
          clear ho
          generalize f k = v at hc m1 m2
          go_wp2_with (go_at_call 42; go_in)
          go_ret
          exact RetV.eq 0 (by rw [HO.out]; rfl)
      · have HO := Lib.hid (show listOK f n = false by
          unfold listOK; rw [List.all_eq_false]; exact ⟨k, List.mem_range.2 hlt, by simp [okI, m1]⟩)
        clear ho
        generalize f k = v at hc m1
        go_wp2_with (go_at_call 42; go_in)
        go_ret
        exact RetV.eq 0 (by rw [HO.out]; rfl)
    · have hkn : k = n := by omega
      have HO := Lib.hid (hkn ▸ ho)
      clear ho
      go_wp2
      go_ret
      exact RetV.eq 0 (by rw [HO.out]; first | rfl | (simp; done) | (simp; omega))

/-- A text is handed back, and nothing that was there is written. -/
def RetS (l : List UInt8) (w : World) (e : Ending) (w' : World) : Prop := e = .returned (.string ⟨l.toArray⟩) ∧ Below w.heap.size w w'

set_option maxHeartbeats 1600000 in
theorem specTextI (b off n cap : Nat) (f : Nat → Int) (w : World) (h0 : 0 < n) (hn : n ≤ 64) (hb : b < w.heap.size) (hf : ∀ i, -9223372036854775808 ≤ f i ∧ f i ≤ 9223372036854775807)
    (hr : ∀ i, i < n → w.cell? ⟨b, off + i, none⟩ = some (.int .i64 (f i))) :
    Calls Tryd.prog 26 #[.slice (some ⟨b, off, none⟩) n cap] w (RetS (txtL f n) w) := by
  have HR := Lib.hid hr
  have HF := Lib.hid hf
  have hc0 := hr 0 h0
  rw [Nat.add_zero] at hc0
  have hn0 : ¬ (n = 0) := by omega
  have HD := fun (i : Nat) (w : World) => specDec (f i) (hf i).1 (hf i).2 w
  have H0 := HD 0
  clear hr hf
  generalize hv0 : f 0 = v0 at hc0 H0
  have HV := Lib.hid hv0
  clear hv0
  go_enter Tryd.func26, Tryd.ntmps26
  go_wp2_with (go_at_call 43; refine (H0 _).mono ?_; rintro eq w1 ⟨rfl, hb1⟩)
  have HB1 := Lib.hid hb1
  clear hb1 hc0 H0
  go_loopw [3, 4] (fun o i wr => ∃ k s, 1 ≤ k ∧ k ≤ n ∧ i = .int .i64 (k : Nat) ∧ o = .string s ∧ s.data.toList = txtL f k ∧ Below w.heap.size w wr) (fun _ i _ => n - (intOf i).toNat)
  case atStart => exact ⟨1, _, Nat.le_refl _, h0, rfl, rfl, by rw [txtL_one, HV.out], HB1.out⟩
  case round =>
    obtain ⟨k, s, hk1, hk, rfl, rfl, hs, hbw⟩ := hrel
    by_cases hlt : k < n
    · have hc := (hbw.cell (p := ⟨b, off + k, none⟩) hb).trans (HR.out k hlt)
      have HDk := HD k
      have hil := Lib.itoa_length_le (f k) (HF.out k).1 (HF.out k).2
      have hsl : s.size ≤ 22 * k := by
        have := txtL_len f HF.out k (by omega)
        rw [← hs] at this
        simpa using this
      have HT := Lib.hid (txtL_succ f k (by omega))
      have HS := Lib.hid hs
      have HW := Lib.hid hbw
      generalize f k = v at hc HDk hil HT
      clear hs hbw
      go_wp2_with (go_at_call 43; refine (HDk _).mono ?_; rintro eq w2 ⟨rfl, hb2⟩)
      go_roundw
      case rel => exact ⟨k + 1, _, by omega, by omega, by go_num, rfl, by rw [HT.out, ← HS.out, Joins.data_append, Joins.data_append], HW.out.trans (hb2.mono HW.out.size)⟩
      case measure => simp [intOf]; omega
    · have hkn : k = n := by omega
      have HS := Lib.hid (bytes_of (hkn ▸ hs))
      go_wp2
      go_ret
      exact ⟨by rw [HS.out]; rfl, hbw⟩

theorem infoS : (Tryd.prog.info? 9).map (fun i => (i.zero, i.size, i.bytes)) = some (some (.string ⟨#[]⟩), 1, 16) := by kernel_rfl
/-- A row of n texts, of which the first k are those of g, the rest empty. -/
def arrS (g : Nat → ByteArray) (k n : Nat) : Array Value := ((List.range n).map fun i => Value.string (if i < k then g i else ⟨#[]⟩)).toArray
theorem arrS_get (g : Nat → ByteArray) (k n i : Nat) (h : i < n) : (arrS g k n)[i]? = some (.string (if i < k then g i else ⟨#[]⟩)) := by simp [arrS, h]
theorem arrS_set (g : Nat → ByteArray) (k n : Nat) : (arrS g k n).setIfInBounds k (.string (g k)) = arrS g (k + 1) n := by
  apply Array.ext
  · simp [arrS]
  · intro i h1 h2
    simp only [arrS, Array.size_setIfInBounds, List.size_toArray, List.length_map, List.length_range] at h1 h2
    simp only [arrS, Array.getElem_setIfInBounds, List.size_toArray, List.length_map, List.length_range, h1, List.getElem_toArray, List.getElem_map, List.getElem_range]
    by_cases e : k = i
    · subst e; simp
    · have : (i < k + 1) ↔ (i < k) := by omega
      simp [e, this]
theorem mk_runS (n : Nat) (hn : n ≤ 1048576) (w : World) : (Instr.makeSlice 70 (.int .i64 (n : Int)) (.int .i64 (n : Int))).run Tryd.prog w = .ok (.slice (some ⟨w.heap.size, 0, none⟩) n n) (w.alloc (.cells (arrS (fun _ => ⟨#[]⟩) 0 n) 9)) := by
  obtain ⟨i0, hi, hz0, hz1, hz2⟩ := info_parts infoS
  rw [run_make w 70 9 i0 (.string ⟨#[]⟩) Tryd.underlying70 hi hz0 .i64 .i64 n n (by omega) (by omega) (by rw [hz2]; omega) (by omega)]
  have : madeCells (Value.string ⟨#[]⟩).cells (n * 1) = arrS (fun _ => ⟨#[]⟩) 0 n := by
    have h := toList_madeCells_one (Value.string ⟨#[]⟩) n
    rw [Nat.mul_one]
    show madeCells #[Value.string ⟨#[]⟩] n = _
    rw [← Array.toList_inj, h]
    simp [arrS, List.map_const']
  rw [hz1, Int.toNat_natCast, this]
theorem arrS_zero (g : Nat → ByteArray) (n : Nat) : arrS (fun _ => ⟨#[]⟩) 0 n = arrS g 0 n := by simp [arrS]

theorem cell_of_block {w : World} {g k : Nat} {cs : Array Value} {e : TypeId} {v : Value} (h : w.heap[g]? = some (.cells cs e (0, 0))) (hk : cs[k]? = some v) : w.cell? ⟨g, k, none⟩ = some v := by
  simp [World.cell?, h, hk]
theorem frozen_of_block {w : World} {g k : Nat} {cs : Array Value} {e : TypeId} (h : w.heap[g]? = some (.cells cs e (0, 0))) : w.frozen? ⟨g, k, none⟩ = false := by
  simp [World.frozen?, h]

def numB (f : Nat → Int) (i : Nat) : ByteArray := ⟨(Lib.itoa (f i)).toArray⟩

set_option maxHeartbeats 1600000 in
theorem joinI (b off n cap : Nat) (f : Nat → Int) (w : World) (h0 : 0 < n) (hn : n ≤ 64) (hb : b < w.heap.size) (hf : ∀ i, -9223372036854775808 ≤ f i ∧ f i ≤ 9223372036854775807)
    (hr : ∀ i, i < n → w.cell? ⟨b, off + i, none⟩ = some (.int .i64 (f i))) (htab : Lib.TabIs Tryd.prog w "internal/strconv.uint64pow10" .u64 Lib.pow10Tab) :
    Calls Tryd.prog 28 #[.slice (some ⟨b, off, none⟩) n cap, .string ⟨#[44]⟩, .func (.func 29) #[] #[]] w (RetS (txtL f n) w) := by
  have HR := Lib.hid hr
  have HF := Lib.hid hf
  have hn0 : ¬ (n = 0) := by omega
  have hmk := mk_runS n (by omega)
  have HD := fun (i : Nat) (w' : World) (hb : Below w.heap.size w w') => implDec (f i) (hf i).1 (hf i).2 w' (Joins.tab_stays gPow htab hb (Nat.le_refl _))
  clear hr hf htab
  have hnb : ((n : Int) == 0) = false := by simp; omega
  go_enter Tryd.func28, Tryd.ntmps28
  go_wp2_with fail
  go_loopw [18] (fun i wr => ∃ k : Nat, k ≤ n ∧ i = .int .i64 (k : Nat) ∧ wr.heap[w.heap.size]? = some (.cells (arrS (numB f) k n) 9 (0, 0)) ∧ Below w.heap.size w wr) (fun i _ => n - (intOf i).toNat)
  case atStart => exact ⟨0, Nat.zero_le _, rfl, by rw [heap_alloc_new, arrS_zero (numB f)], (Below.refl _ _).alloc (Nat.le_refl _) _⟩
  case round =>
    obtain ⟨k, hk, rfl, hblk, hbw⟩ := hrel
    have hsz : w.heap.size < wr.heap.size := by
      rcases Nat.lt_or_ge w.heap.size wr.heap.size with h | h
      · exact h
      · rw [Array.getElem?_eq_none h] at hblk; cases hblk
    by_cases hlt : k < n
    · have hc := (hbw.cell (p := ⟨b, off + k, none⟩) hb).trans (HR.out k hlt)
      have HDk := HD k _ hbw
      have HB := Lib.hid hbw
      have HK := Lib.hid hblk
      clear hblk hbw HD
      go_wp2_with (go_at_call 29; refine HDk.mono ?_; rintro eq w2 ⟨rfl, hb2⟩; have HB2 := Lib.hid hb2; have HK2 := Lib.hid ((hb2.block _ hsz).trans HK.out); have hk2 := cell_of_block (k := k) HK2.out (arrS_get _ _ _ _ hlt); have hf2 := frozen_of_block (k := k) HK2.out; clear hb2)
      go_roundw
      case rel => exact ⟨k + 1, by omega, by go_num, by rw [heap_setCell_same _ _ _ _ _ _ HK2.out]; rw [show (⟨(Lib.itoa (f k)).toArray⟩ : ByteArray) = numB f k from rfl, arrS_set], (HB.out.trans (HB2.out.mono HB.out.size)).setCell (Nat.le_refl _) _⟩
      case measure => simp [intOf]; omega
    · have hkn : k = n := by omega
      have HC := Tryd.strings_Join w.heap.size 0 n ((List.range n).map (numB f)) ⟨#[44]⟩ wr (fun j x hx => by
        have hj : j < n := by
          rcases Nat.lt_or_ge j n with h | h
          · exact h
          · rw [List.getElem?_eq_none (by simp; omega)] at hx; cases hx
        rw [hkn] at hblk
        have := cell_of_block (k := j) hblk (arrS_get _ _ _ _ hj)
        rw [if_pos hj] at this
        simp [hj] at hx
        rw [Nat.zero_add, this, ← hx]) hsz (by simp; omega) (by simp) (by
          have := txtL_len f HF.out n h0
          have e : (((List.range n).map (numB f)).map (·.data.toList)) = texts f n := by simp [texts, numB, List.map_map, Function.comp]
          rw [e]
          show (txtL f n).length ≤ _
          omega)
      have e : (((List.range n).map (numB f)).map (·.data.toList)) = texts f n := by simp [texts, numB, List.map_map, Function.comp]
      rw [e] at HC
      have hl : ((List.range n).map (numB f)).length = n := by simp
      rw [hl] at HC
      have HB := Lib.hid hbw
      clear hblk hbw hl e HD
      go_wp2_with (go_at_call 44; refine HC.mono ?_; rintro eq w2 ⟨rfl, hb2⟩)
      go_ret
      exact ⟨rfl, HB.out.trans (hb2.mono HB.out.size)⟩
end Go.Proofs.YtmegolkpnmpbiaaDoor
