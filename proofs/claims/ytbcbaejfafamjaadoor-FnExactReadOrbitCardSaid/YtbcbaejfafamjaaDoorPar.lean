/-
  A number out of hexadecimal digits, of the library (base 16), for any text: it comes back, and where the text is eight small hexadecimal digits it gives what they spell. No condition.
-/
import Derived.Test.YtbcbaejfafamjaaDoorBase
import Derived.Lib.Hide
import Derived.WalkKit
import Derived.Lib.ConvBytes
import Derived.Lib.ParseIntBMem
import Derived.Lib.AtoiErrMem
import Derived.OwnWalk
namespace Go.Proofs.YtbcbaejfafamjaaDoor
open Go.RowKit

/-- What a small hexadecimal digit is worth. -/
def dgH (c : UInt8) : Nat := if c.toNat ≤ 57 then c.toNat - 48 else c.toNat - 87
def isH (c : UInt8) : Bool := (decide (48 ≤ c.toNat) && decide (c.toNat ≤ 57)) || (decide (97 ≤ c.toNat) && decide (c.toNat ≤ 102))
def spH (l : List UInt8) : Nat := l.foldl (fun a c => 16 * a + dgH c) 0
/-- Eight small hexadecimal digits. -/
def okH (s : ByteArray) : Prop := s.size = 8 ∧ ∀ (i : Nat) (h : i < s.size), isH s[i] = true
theorem spH_snoc (l : List UInt8) (c : UInt8) : spH (l ++ [c]) = 16 * spH l + dgH c := by unfold spH; rw [List.foldl_append]; rfl
theorem take_snocH (s : ByteArray) (k : Nat) (h : k < s.size) : s.data.toList.take (k + 1) = s.data.toList.take k ++ [s[k]] := by
  rw [List.take_succ_eq_append_getElem (by simpa using h)]; rfl
theorem dgH_lt {c : UInt8} (h : isH c = true) : dgH c < 16 := by
  unfold isH at h; unfold dgH
  simp at h
  split <;> omega
theorem spH_lt : ∀ (s : ByteArray), okH s → ∀ k, k ≤ 8 → spH (s.data.toList.take k) < 16 ^ k
  | s, hs, 0, _ => by simp [spH]
  | s, hs, k + 1, hk => by
    have hl : k < s.size := by have := hs.1; omega
    rw [take_snocH s k hl, spH_snoc]
    have h1 := spH_lt s hs k (by omega)
    have h2 := dgH_lt (hs.2 k hl)
    rw [Nat.pow_succ]; omega

/-- The value of the text and the library's own kind of error. -/
def RetP (s : ByteArray) (w : World) (e : Ending) (w' : World) : Prop :=
  ∃ (u : Int) (ev : Value), e = .returned (.tuple #[.int .u64 u, ev]) ∧ 0 ≤ u ∧ u < 18446744073709551616 ∧ (ev = .nilIface ∨ ev = .iface 94 (.int .i64 2) ∨ ev = .iface 94 (.int .i64 1)) ∧ (okH s → ev = .nilIface ∧ u = (spH s.data.toList : Nat)) ∧ Below w.heap.size w w'

theorem emp_eq (s : ByteArray) : s.toList.isEmpty = decide (s.size = 0) := by
  rw [ByteArray.toList_eq]
  have hl : s.data.toList.length = s.size := by simp
  cases h : s.data.toList with
  | nil =>
    have : s.size = 0 := by rw [← hl, h]; rfl
    rw [decide_eq_true this]; rfl
  | cons a l =>
    have : ¬ s.size = 0 := by rw [← hl, h]; simp
    rw [decide_eq_false this]; rfl
theorem or32 (c : UInt8) (h1 : 97 ≤ c.toNat) (h2 : c.toNat ≤ 102) : bits .or .u8 (c.toNat : Int) 32 = (c.toNat : Int) := by
  have key : ∀ x : Nat, 97 ≤ x → x ≤ 102 → bits .or .u8 (x : Int) 32 = (x : Int) := by
    intro x a b
    have : x = 97 ∨ x = 98 ∨ x = 99 ∨ x = 100 ∨ x = 101 ∨ x = 102 := by omega
    rcases this with rfl | rfl | rfl | rfl | rfl | rfl <;> decide
  exact key _ h1 h2
theorem isH_or {c : UInt8} (h : isH c = true) (hn : ¬ (48 ≤ c.toNat ∧ c.toNat ≤ 57)) : 97 ≤ c.toNat ∧ c.toNat ≤ 102 := by
  unfold isH at h; simp at h; omega
theorem step_digit {s : ByteArray} {k : Nat} {z : Int} (hk : k < s.size) (hz : okH s → z = (spH (s.data.toList.take k) : Nat)) (h1 : 48 ≤ s[k].toNat) (h2 : s[k].toNat ≤ 57) : okH s → z * 16 + ((s[k].toNat : Int) - 48) = (spH (s.data.toList.take (k + 1)) : Nat) := fun p => by
  rw [take_snocH s k hk, spH_snoc, hz p]
  unfold dgH; rw [if_pos h2]; omega
theorem step_letter {s : ByteArray} {k : Nat} {z : Int} (hk : k < s.size) (hz : okH s → z = (spH (s.data.toList.take k) : Nat)) (hn : ¬ (48 ≤ s[k].toNat ∧ s[k].toNat ≤ 57)) : okH s → z * 16 + (bits .or .u8 (s[k].toNat : Int) 32 - 97 + 10) = (spH (s.data.toList.take (k + 1)) : Nat) := fun p => by
  have h := isH_or (p.2 k hk) hn
  rw [take_snocH s k hk, spH_snoc, hz p, or32 _ h.1 h.2]
  unfold dgH; rw [if_neg (by omega)]; omega
theorem small_z {s : ByteArray} {k : Nat} {z : Int} (hk : k < s.size) (hz : okH s → z = (spH (s.data.toList.take k) : Nat)) : okH s → z < 4294967296 := fun p => by
  have h1 := spH_lt s p k (by have := p.1; omega)
  have h3 : (16 : Nat) ^ k ≤ 16 ^ 8 := Nat.pow_le_pow_right (by decide) (by have := p.1; omega)
  have h4 : (16 : Nat) ^ 8 = 4294967296 := by decide
  have := hz p
  omega

set_option maxHeartbeats 8000000 in
set_option maxRecDepth 100000 in
theorem pu16 (s : ByteArray) (hs : s.size ≤ 1048576) (w : World) :
    Calls Tryd.prog 80 #[.string s, .int .i64 16, .int .i64 64] w (RetP s w) := by
  by_cases h0 : s.size = 0
  · have HN := Lib.hid (show okH s → False from fun h => by have := h.1; omega)
    have hq : s.toList.isEmpty = true := by rw [emp_eq]; simp [h0]
    go_enter Tryd.func80, Tryd.ntmps80
    go_wp2
    go_ret2
    exact ⟨0, _, rfl, by decide, by decide, .inr (.inl rfl), fun h => (HN.out h).elim, Below.refl _ _⟩
  · have hq : s.toList.isEmpty = false := by rw [emp_eq]; simp [h0]
    have hcv := Lib.run_convert_string_bytes (P := Tryd.prog) w 9 92 5 s (u := .string) Tryd.underlying9 Tryd.underlying92 Tryd.underlying5
    have hB : ∀ j, j < s.size → (Lib.bytesWorld w 5 s).cell? ⟨w.heap.size, j, none⟩ = some (.int .u8 (s.data.toList.getD j 0).toNat) := fun j hj => Lib.bytesWorld_cell w 5 s j hj
    have hbel := Lib.hid (show Below w.heap.size w (Lib.bytesWorld w 5 s) from Lib.bytesWorld_below _ _ _)
    obtain ⟨W1, hW1⟩ : ∃ W1, W1 = Lib.bytesWorld w 5 s := ⟨_, rfl⟩
    rw [← hW1] at hcv hB hbel
    clear hW1
    have hmv : IntKind.u64.wrap (IntKind.u64.wrap 18446744073709551616 - 1) = 18446744073709551615 := by
      rw [IntKind.wrap_u64, IntKind.wrap_u64]
      decide
    go_enter Tryd.func80, Tryd.ntmps80
    go_wp2
    go_loopw [12, 13, 101] (fun vu vn vi wr => ∃ (k : Nat) (z : Int), vu = .bool false ∧ vn = .int .u64 z ∧ vi = .int .i64 k ∧ k ≤ s.size ∧ 0 ≤ z ∧ z < 18446744073709551616 ∧ Hid (okH s → z = (spH (s.data.toList.take k) : Nat)) ∧ wr = W1) (fun _ _ vi _ => s.size - (intOf vi).toNat)
    case atStart => exact ⟨0, 0, rfl, rfl, rfl, Nat.zero_le _, by decide, by decide, Lib.hid (fun _ => rfl), rfl⟩
    case round =>
      obtain ⟨k, z, rfl, rfl, rfl, hk, z0, z1, HZ, rfl⟩ := hrel
      by_cases hlt : k < s.size
      · have hc := hB k hlt
        have hget : s.data.toList.getD k 0 = s[k] := by
          rw [List.getD_eq_getElem?_getD, List.getElem?_eq_getElem (by simpa using hlt)]; rfl
        rw [hget] at hc
        have hc256 : s[k].toNat < 256 := s[k].toNat_lt
        have HS := Lib.hid (small_z hlt HZ.out)
        by_cases hdig : 48 ≤ s[k].toNat ∧ s[k].toNat ≤ 57
        · have HN := Lib.hid (step_digit hlt HZ.out hdig.1 hdig.2)
          obtain ⟨hd0, hd1⟩ := hdig
          generalize s[k] = c at hc hc256 HN hd0 hd1
          clear hB hget HZ
          by_cases hcut : 1152921504606846976 ≤ z
          · have HX := Lib.hid (show okH s → False from fun p => by have := HS.out p; omega)
            clear HN HS
            go_wp2
            go_ret2
            exact ⟨_, _, rfl, by decide, by decide, .inr (.inr rfl), fun h => (HX.out h).elim, hbel.out⟩
          · have icut : z < 1152921504606846976 := by omega
            have iov : z * 16 + ((c.toNat : Int) - 48) < 18446744073709551616 := by omega
            clear hcut HS
            go_wp2
            go_roundw
            case rel => exact ⟨k + 1, _, rfl, rfl, by go_num, by omega, by omega, by omega, HN, trivial⟩
            case measure => simp [intOf]; omega
        · have HN := Lib.hid (step_letter hlt HZ.out hdig)
          have HO := Lib.hid (show okH s → 97 ≤ s[k].toNat ∧ s[k].toNat ≤ 102 ∧ bits .or .u8 (s[k].toNat : Int) 32 = (s[k].toNat : Int) from fun p => by
            have h := isH_or (p.2 k hlt) hdig
            exact ⟨h.1, h.2, or32 _ h.1 h.2⟩)
          have hv0 := bits_lo_u8 .or (s[k].toNat : Int) 32
          have hv1 := bits_hi_u8 .or (s[k].toNat : Int) 32
          generalize hLe : bits .or .u8 (s[k].toNat : Int) 32 = L at hv0 hv1 HN HO
          generalize s[k] = c at hc hc256 HN HO hLe hdig
          clear hB hget HZ
          by_cases h95 : (c.toNat : Int) = 95
          · have HX := Lib.hid (show okH s → False from fun p => by have := HO.out p; omega)
            have hu : bits .or .u8 95 32 = 127 := by decide
            rw [h95] at hc
            clear HN HS HO hdig hLe hv0 hv1 h95
            go_wp2_with (go_at_call 103; go_in)
            all_goals go_ret2
            all_goals exact ⟨_, _, rfl, by decide, by decide, .inr (.inl rfl), fun h => (HX.out h).elim, hbel.out⟩
          · have hb95 : ((c.toNat : Int) == 95) = false := by simpa using h95
            have hor : (c.toNat : Int) < 48 ∨ 57 < (c.toNat : Int) := by omega
            by_cases hL : 97 ≤ L ∧ L ≤ 122
            · obtain ⟨hl0, hl1⟩ := hL
              by_cases h16 : L ≤ 102
              · by_cases hcut : 1152921504606846976 ≤ z
                · have HX := Lib.hid (show okH s → False from fun p => by have := HS.out p; omega)
                  clear HN HS HO hdig
                  rcases hor with hor | hor
                  all_goals
                    go_wp2_with (go_at_call 103; go_in)
                  all_goals go_ret2
                  all_goals exact ⟨_, _, rfl, by decide, by decide, .inr (.inr rfl), fun h => (HX.out h).elim, hbel.out⟩
                · have icut : z < 1152921504606846976 := by omega
                  have iov : z * 16 + (L - 97 + 10) < 18446744073709551616 := by omega
                  clear hcut HS HO hdig
                  rcases hor with hor | hor
                  all_goals
                    go_wp2_with (go_at_call 103; go_in)
                  all_goals
                    go_roundw
                    case rel => exact ⟨k + 1, _, rfl, rfl, by go_num, by omega, by omega, by omega, HN, trivial⟩
                    case measure => simp [intOf]; omega
              · have HX := Lib.hid (show okH s → False from fun p => by have := HO.out p; omega)
                clear HN HS HO hdig
                rcases hor with hor | hor
                all_goals
                  go_wp2_with (go_at_call 103; go_in)
                all_goals go_ret2
                all_goals exact ⟨_, _, rfl, by decide, by decide, .inr (.inl rfl), fun h => (HX.out h).elim, hbel.out⟩
            · have HX := Lib.hid (show okH s → False from fun p => by have := HO.out p; omega)
              have hL' : L < 97 ∨ 122 < L := by omega
              clear HN HS HO hdig hL
              rcases hor with hor | hor <;> rcases hL' with hL' | hL'
              all_goals
                go_wp2_with (go_at_call 103; go_in)
              all_goals go_ret2
              all_goals exact ⟨_, _, rfl, by decide, by decide, .inr (.inl rfl), fun h => (HX.out h).elim, hbel.out⟩
      · have hkk : k = s.size := by omega
        subst hkk
        have HE := Lib.hid (show okH s → z = (spH s.data.toList : Nat) from fun p => by
          have := HZ.out p; rwa [List.take_of_length_le (by simp)] at this)
        clear HZ hB
        go_wp2
        go_ret2
        exact ⟨_, _, rfl, z0, z1, .inl rfl, fun h => ⟨rfl, HE.out h⟩, hbel.out⟩
end Go.Proofs.YtbcbaejfafamjaaDoor
