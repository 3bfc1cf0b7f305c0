/-
  The text of a list of numbers, of the program and of the model. Condition: what the library's table holds.
-/
import Derived.Test.YtmegolkpnmpbiaaDoorHexS
import Derived.Test.YtmegolkpnmpbiaaDoorLstF
import Derived.Lib.JoinLaws
namespace Go.Proofs.YtmegolkpnmpbiaaDoor
open Go.RowKit

/-- What the library's table must hold. -/
def Tab (w : World) : Prop := w.cell? ⟨4, 15, none⟩ = some (.int .u8 4) ∧ 4 < w.heap.size
theorem Tab.stays {w w' : World} (h : Tab w) (hb : Below w.heap.size w w') : Tab w' :=
  ⟨(hb.cell (p := ⟨4, 15, none⟩) h.2).trans h.1, Nat.lt_of_lt_of_le h.2 hb.size⟩

/-- The text: the numerals with commas between them. -/
def hxF (f : Nat → Nat) (i : Nat) : List UInt8 := hex8 (bitsN (nrm .f32 (f i)))
def textsF (f : Nat → Nat) (n : Nat) : List (List UInt8) := (List.range n).map (hxF f)
def txtF (f : Nat → Nat) (n : Nat) : List UInt8 := Lib.join (textsF f n) [44]
theorem hxF_len (f : Nat → Nat) (i : Nat) : (hxF f i).length = 8 := hex8_length _

theorem txtF_one (f : Nat → Nat) : txtF f 1 = hxF f 0 := by
  show Lib.join [hxF f 0] [44] = _
  rw [Lib.join_one]
theorem txtF_succ (f : Nat → Nat) (k : Nat) (hk : 0 < k) : txtF f (k + 1) = txtF f k ++ ([44] ++ hxF f k) := by
  unfold txtF textsF
  rw [List.range_succ, List.map_append]
  obtain ⟨j, rfl⟩ : ∃ j, k = j + 1 := ⟨k - 1, by omega⟩
  rw [List.range_succ_eq_map, List.map_cons, List.cons_append, Lib.join_cons, Lib.join_cons]
  simp [Lib.joinTail]

theorem txtF_len (f : Nat → Nat) : ∀ k, 0 < k → (txtF f k).length ≤ 9 * k
  | 1, _ => by rw [txtF_one, hxF_len]; omega
  | k + 2, _ => by
    rw [txtF_succ f (k + 1) (by omega)]
    have h1 := txtF_len f (k + 1) (by omega)
    simp only [List.length_append, List.length_cons, List.length_nil, hxF_len]; omega

set_option maxHeartbeats 1600000 in
theorem specTextF (b off n cap : Nat) (f : Nat → Nat) (w : World) (h0 : 0 < n) (hn : n ≤ 256) (hb : b < w.heap.size) (hf : ∀ i, i < n → f i < 2 ^ 32)
    (hr : ∀ i, i < n → w.cell? ⟨b, off + i, none⟩ = some (.float .f32 (f i))) :
    Calls Tryd.prog 31 #[.slice (some ⟨b, off, none⟩) n cap] w (RetS (txtF f n) w) := by
  have HR := Lib.hid hr
  have hc0 := hr 0 h0
  rw [Nat.add_zero] at hc0
  have hn0 : ¬ (n = 0) := by omega
  have HD := fun (i : Nat) (hi : i < n) (w : World) => specHex (Is.self (hf i hi)) w
  have H0 := HD 0 h0
  clear hr hf
  have HV := Lib.hid (txtF_one f)
  unfold hxF at HV
  have HL := Lib.hid (show (hex8 (bitsN (nrm .f32 (f 0)))).length = 8 from hex8_length _)
  generalize hex8 (bitsN (nrm .f32 (f 0))) = L0 at H0 HV HL
  generalize f 0 = v0 at hc0 H0
  go_enter Tryd.func31, Tryd.ntmps31
  go_wp2_with (go_at_call 46; refine (H0 _).mono ?_; rintro eq w1 ⟨rfl, hb1⟩)
  have HB1 := Lib.hid hb1
  clear hb1 hc0 H0
  go_loopw [3, 4] (fun o i wr => ∃ k s, 1 ≤ k ∧ k ≤ n ∧ i = .int .i64 (k : Nat) ∧ o = .string s ∧ s.data.toList = txtF f k ∧ Below w.heap.size w wr) (fun _ i _ => n - (intOf i).toNat)
  case atStart => exact ⟨1, _, Nat.le_refl _, h0, rfl, rfl, by rw [HV.out], HB1.out⟩
  case round =>
    obtain ⟨k, s, hk1, hk, rfl, rfl, hs, hbw⟩ := hrel
    by_cases hlt : k < n
    · have hc := (hbw.cell (p := ⟨b, off + k, none⟩) hb).trans (HR.out k hlt)
      have HDk := HD k hlt
      have hsl : s.size ≤ 9 * k := by
        have := txtF_len f k (by omega)
        rw [← hs] at this
        simpa using this
      have HT := Lib.hid (txtF_succ f k (by omega))
      unfold hxF at HT
      have hil : (hex8 (bitsN (nrm .f32 (f k)))).length = 8 := hex8_length _
      have HS := Lib.hid hs
      have HW := Lib.hid hbw
      generalize hex8 (bitsN (nrm .f32 (f k))) = L at HDk HT hil
      generalize f k = v at hc HDk
      clear hs hbw HD
      go_wp2_with (go_at_call 46; refine (HDk _).mono ?_; rintro eq w2 ⟨rfl, hb2⟩)
      go_roundw
      case rel => exact ⟨k + 1, _, by omega, by omega, by go_num, rfl, by rw [HT.out, ← HS.out, Joins.data_append, Joins.data_append], HW.out.trans (hb2.mono HW.out.size)⟩
      case measure => simp [intOf]; omega
    · have hkn : k = n := by omega
      have HS := Lib.hid (bytes_eq (hkn ▸ hs))
      go_wp2
      go_ret
      exact ⟨by rw [HS.out]; rfl, hbw⟩

theorem infoS : (Tryd.prog.info? 9).map (fun i => (i.zero, i.size, i.bytes)) = some (some (.string ⟨#[]⟩), 1, 16) := by kernel_rfl
/-- A row of n texts, of which the first k are those of g, the rest empty. -/
def arrS (g : Nat → ByteArray) (k n : Nat) : Array Value := ((List.range n).map fun i => Value.string (if i < k then g i else ⟨#[]⟩)).toArray
theorem arrS_get (g : Nat → ByteArray) (k n i : Nat) (h : i < n) : (arrS g k n)[i]? = some (.string (if i < k then g i else ⟨#[]⟩)) := by simp [arrS, h]
theorem arrS_set (g : Nat → ByteArray) (k n : Nat) : (arrS g k n).setIfInBounds k (.string (g k)) = arrS g (k + 1) n := by
  apply Array.ext
  · simp [arrS]
  · intro i h1 h2
    simp only [arrS, Array.size_setIfInBounds, List.size_toArray, List.length_map, List.length_range] at h1 h2
    simp only [arrS, Array.getElem_setIfInBounds, List.size_toArray, List.length_map, List.length_range, h1, List.getElem_toArray, List.getElem_map, List.getElem_range]
    by_cases e : k = i
    · subst e; simp
    · have : (i < k + 1) ↔ (i < k) := by omega
      simp [e, this]
theorem mk_runS (n : Nat) (hn : n ≤ 1048576) (w : World) : (Instr.makeSlice 70 (.int .i64 (n : Int)) (.int .i64 (n : Int))).run Tryd.prog w = .ok (.slice (some ⟨w.heap.size, 0, none⟩) n n) (w.alloc (.cells (arrS (fun _ => ⟨#[]⟩) 0 n) 9)) := by
  obtain ⟨i0, hi, hz0, hz1, hz2⟩ := info_parts infoS
  rw [run_make w 70 9 i0 (.string ⟨#[]⟩) Tryd.underlying70 hi hz0 .i64 .i64 n n (by omega) (by omega) (by rw [hz2]; omega) (by omega)]
  have : madeCells (Value.string ⟨#[]⟩).cells (n * 1) = arrS (fun _ => ⟨#[]⟩) 0 n := by
    have h := toList_madeCells_one (Value.string ⟨#[]⟩) n
    rw [Nat.mul_one]
    show madeCells #[Value.string ⟨#[]⟩] n = _
    rw [← Array.toList_inj, h]
    simp [arrS, List.map_const']
  rw [hz1, Int.toNat_natCast, this]
theorem arrS_zero (g : Nat → ByteArray) (n : Nat) : arrS (fun _ => ⟨#[]⟩) 0 n = arrS g 0 n := by simp [arrS]

theorem cell_of_block {w : World} {g k : Nat} {cs : Array Value} {e : TypeId} {v : Value} (h : w.heap[g]? = some (.cells cs e (0, 0))) (hk : cs[k]? = some v) : w.cell? ⟨g, k, none⟩ = some v := by
  simp [World.cell?, h, hk]
theorem frozen_of_block {w : World} {g k : Nat} {cs : Array Value} {e : TypeId} (h : w.heap[g]? = some (.cells cs e (0, 0))) : w.frozen? ⟨g, k, none⟩ = false := by
  simp [World.frozen?, h]

def numBF (f : Nat → Nat) (i : Nat) : ByteArray := ⟨(hxF f i).toArray⟩

set_option maxHeartbeats 1600000 in
theorem joinF (b off n cap : Nat) (f : Nat → Nat) (w : World) (h0 : 0 < n) (hn : n ≤ 256) (hb : b < w.heap.size) (hf : ∀ i, i < n → f i < 2 ^ 32)
    (hr : ∀ i, i < n → w.cell? ⟨b, off + i, none⟩ = some (.float .f32 (f i))) (htab : Tab w) :
    Calls Tryd.prog 32 #[.slice (some ⟨b, off, none⟩) n cap, .string ⟨#[44]⟩, .func (.func 33) #[] #[]] w (RetS (txtF f n) w) := by
  have HR := Lib.hid hr
  have HF := Lib.hid hf
  have hn0 : ¬ (n = 0) := by omega
  have hmk := mk_runS n (by omega)
  have HD := fun (i : Nat) (hi : i < n) (w' : World) (hb : Below w.heap.size w w') => implNum (Is.self (hf i hi)) w' (htab.stays hb).1 (htab.stays hb).2
  clear hr hf htab
  have hnb : ((n : Int) == 0) = false := by simp; omega
  go_enter Tryd.func32, Tryd.ntmps32
  go_wp2_with fail
  go_loopw [18] (fun i wr => ∃ k : Nat, k ≤ n ∧ i = .int .i64 (k : Nat) ∧ wr.heap[w.heap.size]? = some (.cells (arrS (numBF f) k n) 9 (0, 0)) ∧ Below w.heap.size w wr) (fun i _ => n - (intOf i).toNat)
  case atStart => exact ⟨0, Nat.zero_le _, rfl, by rw [heap_alloc_new, arrS_zero (numBF f)], (Below.refl _ _).alloc (Nat.le_refl _) _⟩
  case round =>
    obtain ⟨k, hk, rfl, hblk, hbw⟩ := hrel
    have hsz : w.heap.size < wr.heap.size := by
      rcases Nat.lt_or_ge w.heap.size wr.heap.size with h | h
      · exact h
      · rw [Array.getElem?_eq_none h] at hblk; cases hblk
    by_cases hlt : k < n
    · have hc := (hbw.cell (p := ⟨b, off + k, none⟩) hb).trans (HR.out k hlt)
      have HDk := HD k hlt _ hbw
      have hN : (⟨(hex8 (bitsN (nrm .f32 (f k)))).toArray⟩ : ByteArray) = numBF f k := rfl
      unfold RetS at HDk
      rw [hN] at HDk
      have HNB := Lib.hid (arrS_set (numBF f) k n)
      generalize numBF f k = d at HDk HNB
      generalize f k = v at hc HDk
      have HB := Lib.hid hbw
      have HK := Lib.hid hblk
      clear hblk hbw HD hN
      go_wp2_with (go_at_call 33; refine HDk.mono ?_; rintro eq w2 ⟨rfl, hb2⟩; have HB2 := Lib.hid hb2; have HK2 := Lib.hid ((hb2.block _ hsz).trans HK.out); have hk2 := cell_of_block (k := k) HK2.out (arrS_get _ _ _ _ hlt); have hf2 := frozen_of_block (k := k) HK2.out; clear hb2)
      go_roundw
      case rel => exact ⟨k + 1, by omega, by go_num, by rw [heap_setCell_same _ _ _ _ _ _ HK2.out]; rw [HNB.out], (HB.out.trans (HB2.out.mono HB.out.size)).setCell (Nat.le_refl _) _⟩
      case measure => simp [intOf]; omega
    · have hkn : k = n := by omega
      have e : (((List.range n).map (numBF f)).map (·.data.toList)) = textsF f n := by simp [textsF, numBF, List.map_map, Function.comp]
      have HC := Tryd.strings_Join w.heap.size 0 n ((List.range n).map (numBF f)) ⟨#[44]⟩ wr (fun j x hx => by
        have hj : j < n := by
          rcases Nat.lt_or_ge j n with h | h
          · exact h
          · rw [List.getElem?_eq_none (by simp; omega)] at hx; cases hx
        rw [hkn] at hblk
        have := cell_of_block (k := j) hblk (arrS_get _ _ _ _ hj)
        rw [if_pos hj] at this
        simp [hj] at hx
        rw [Nat.zero_add, this, ← hx]) hsz (by simp; omega) (by simp) (by
          have := txtF_len f n h0
          rw [e]
          show (txtF f n).length ≤ _
          omega)
      rw [e] at HC
      have hl : ((List.range n).map (numBF f)).length = n := by simp
      rw [hl] at HC
      have HB := Lib.hid hbw
      clear hblk hbw hl e HD
      go_wp2_with (go_at_call 44; refine HC.mono ?_; rintro eq w2 ⟨rfl, hb2⟩)
      go_ret
      exact ⟨rfl, HB.out.trans (hb2.mono HB.out.size)⟩
end Go.Proofs.YtmegolkpnmpbiaaDoor
