/-
  A number with eight hexadecimal digits, of the program: what the digits spell, where that is the number's own text. Conditions: what the library's two errors and its table hold.
-/
import Derived.Test.YtbcbaejfafamjaaDoorHexN
import Derived.Test.YtbcbaejfafamjaaDoorPap
import Derived.Test.YtbcbaejfafamjaaDoorFromI
namespace Go.Proofs.YtbcbaejfafamjaaDoor
open Go.RowKit

theorem hxc_byte {d : Nat} (h : d < 16) : (UInt8.ofNat (hxc d)).toNat = hxc d := by
  rw [UInt8.toNat_ofNat']
  have : hxc d < 256 := by unfold hxc; split <;> omega
  omega
theorem isH_hxc {d : Nat} (h : d < 16) : isH (UInt8.ofNat (hxc d)) = true := by
  unfold isH; rw [hxc_byte h]; unfold hxc; split <;> simp <;> omega
theorem dgH_hxc {d : Nat} (h : d < 16) : dgH (UInt8.ofNat (hxc d)) = d := by
  unfold dgH; rw [hxc_byte h]; unfold hxc; split <;> split <;> omega
theorem hxc_dgH {c : UInt8} (h : isH c = true) : UInt8.ofNat (hxc (dgH c)) = c := by
  apply UInt8.toNat_inj.1
  rw [hxc_byte (dgH_lt h)]
  unfold isH at h; simp at h
  unfold hxc dgH
  split <;> split <;> omega
theorem hex8_take (u : Nat) : ∀ k, k ≤ 8 → spH ((hex8 u).take k) = u / 16 ^ (8 - k) % 16 ^ k
  | 0, _ => by simp [spH, Nat.mod_one]
  | k + 1, hk => by
    have hl : k < (hex8 u).length := by rw [hex8_length]; omega
    rw [List.take_succ_eq_append_getElem hl, spH_snoc, hex8_take u k (by omega)]
    have e : (hex8 u)[k] = UInt8.ofNat (hxc (u / 16 ^ (7 - k) % 16)) := by simp [hex8]
    rw [e, dgH_hxc (Nat.mod_lt _ (by decide))]
    have e1 : 8 - k = (7 - k) + 1 := by omega
    have e2 : 8 - (k + 1) = 7 - k := by omega
    rw [e1, e2, Nat.pow_succ, ← Nat.div_div_eq_div_mul]
    generalize u / 16 ^ (7 - k) = q
    rw [Nat.pow_succ, Nat.mul_comm (16 ^ k) 16, Nat.mod_mul]
    omega
theorem spH_hex8 {u : Nat} (hu : u < 4294967296) : spH (hex8 u) = u := by
  have := hex8_take u 8 (Nat.le_refl _)
  rw [List.take_of_length_le (by rw [hex8_length]; exact Nat.le_refl _)] at this
  rw [this]
  have h4 : (16 : Nat) ^ 8 = 4294967296 := by decide
  rw [Nat.sub_self, Nat.pow_zero, Nat.div_one, h4]
  exact Nat.mod_eq_of_lt hu
theorem okH_hex8 {s : ByteArray} {u : Nat} (h : hex8 u = s.data.toList) : okH s := by
  have hl : s.size = 8 := by
    have := congrArg List.length h
    rw [hex8_length] at this
    simpa using this.symm
  refine ⟨hl, fun i hi => ?_⟩
  have e : s.data.toList[i]? = some s[i] := by rw [List.getElem?_eq_getElem (by simpa using hi)]; rfl
  rw [← h] at e
  have : (hex8 u)[i]? = some (UInt8.ofNat (hxc (u / 16 ^ (7 - i) % 16))) := by
    rw [List.getElem?_eq_getElem (by rw [hex8_length]; omega)]; simp [hex8]
  rw [this] at e
  rw [← Option.some.inj e]
  exact isH_hxc (Nat.mod_lt _ (by decide))

/-- A text is the text of a number. -/
def okXB (l : List UInt8) : Bool := decide (hex8 (bitsN (nrm .f32 (spH l))) = l)
theorem okXB_okH {s : ByteArray} (h : okXB s.data.toList = true) : okH s := okH_hex8 (of_decide_eq_true h)
def RetX (s : ByteArray) (w : World) (e : Ending) (w' : World) : Prop :=
  e = .returned (.tuple #[.float .f32 (if okXB s.data.toList then spH s.data.toList else 0), .bool (okXB s.data.toList)]) ∧ Below w.heap.size w w'

/-- What the library's parts of the world hold. -/
def LibN (w : World) : Prop := ErrIs w ∧ w.cell? ⟨8, 15, none⟩ = some (.int .u8 4) ∧ 8 < w.heap.size
theorem LibN.stays {w w' : World} (h : LibN w) (hb : Below w.heap.size w w') : LibN w' :=
  ⟨h.1.stays hb, (hb.cell (p := ⟨8, 15, none⟩) h.2.2).trans h.2.1, Nat.lt_of_lt_of_le h.2.2 hb.size⟩
theorem str_neX {a : List UInt8} {s : ByteArray} (h : a ≠ s.data.toList) : (a == s.toList) = false := by
  rw [ByteArray.toList_eq]; simpa using h
theorem str_eqX {a : List UInt8} {s : ByteArray} (h : a = s.data.toList) : (a == s.toList) = true := by
  rw [ByteArray.toList_eq]; simpa using h

set_option maxHeartbeats 3200000 in
set_option maxRecDepth 100000 in
theorem implRd (s : ByteArray) (hs : s.size ≤ 1048576) (w : World) (hL : LibN w) : Calls Tryd.prog 32 #[.string s] w (RetX s w) := by
  have HP := parse16 s hs w hL.1
  have HT := fun (n : Nat) (hn : n < 4294967296) (w' : World) (hb : Below w.heap.size w w') => implNum (Is.self (k := .f32) (b := n) (show n < 4294967296 from hn)) w' (hL.stays hb).2.1 (hL.stays hb).2.2
  have HI := fun (n : Int) (h0 : 0 ≤ n) (h1 : n ≤ 4294967295) (w' : World) => fromImpl_in n h0 h1 w'
  have HO := fun (n : Int) (h : n < 0 ∨ 4294967295 < n) (w' : World) => fromImpl_out n h w'
  clear hL
  go_enter Tryd.func32, Tryd.ntmps32
  go_wp2_with (go_at_call 44; refine HP.mono ?_; rintro eq wq ⟨n, ev, rfl, n0, n1, hev, hok, hb⟩; have HB := Lib.hid hb; have HK := Lib.hid hok; have HV := Lib.hid hev; clear hb hok hev)
  rcases HV.out with rfl | ⟨t, p, rfl⟩
  · by_cases hr : 0 ≤ n ∧ n ≤ 4294967295
    · obtain ⟨r0, r1⟩ := hr
      have HI' := fun w' => HI n r0 r1 w'
      have HT' := fun (w' : World) (hb : Below w.heap.size w w') => HT n.toNat (by omega) w' hb
      have HNN := Lib.hid (show okH s → n.toNat = spH s.data.toList from fun h => by have := (HK.out h).2; omega)
      by_cases c : hex8 (bitsN (nrm .f32 n.toNat)) = s.data.toList
      · have hq := Lib.hid (str_eqX c)
        have HX := Lib.hid (show okXB s.data.toList = true ∧ spH s.data.toList = n.toNat from by
          have e := HNN.out (okH_hex8 c)
          exact ⟨decide_eq_true (by rw [← e]; exact c), e.symm⟩)
        clear HK HV HNN HI HO HT c HP
        generalize hex8 (bitsN (nrm .f32 n.toNat)) = L at HT' hq
        generalize n.toNat = m at HT' HX HI'
        go_simp
        go_wp2_with (first | (go_at_call 49; refine (HI' _).mono ?_; rintro eq wq ⟨nq, rfl, rfl⟩) | (go_at_call 50; refine (HT' _ (below_drewN HB.out _)).mono ?_; rintro eq w2 ⟨rfl, hb2⟩; have hq' := hq.out))
        go_ret2
        exact ⟨by rw [HX.out.1, HX.out.2]; rfl, (below_drewN HB.out _).trans (hb2.mono (below_drewN HB.out _).size)⟩
      · have hq := Lib.hid (str_neX c)
        have HX := Lib.hid (show okXB s.data.toList = false from by
          cases h : okXB s.data.toList with
          | false => rfl
          | true =>
            have e := HNN.out (okXB_okH h)
            exact absurd (of_decide_eq_true h) (by rw [← e]; exact c))
        clear HK HV HNN HI HO HT c HP
        generalize hex8 (bitsN (nrm .f32 n.toNat)) = L at HT' hq
        generalize n.toNat = m at HT' HI'
        go_simp
        go_wp2_with (first | (go_at_call 49; refine (HI' _).mono ?_; rintro eq wq ⟨nq, rfl, rfl⟩) | (go_at_call 50; refine (HT' _ (below_drewN HB.out _)).mono ?_; rintro eq w2 ⟨rfl, hb2⟩; have hq' := hq.out))
        go_ret2
        exact ⟨by rw [HX.out]; rfl, (below_drewN HB.out _).trans (hb2.mono (below_drewN HB.out _).size)⟩
    · have HO' := fun w' => HO n (by omega) w'
      have HX := Lib.hid (show okXB s.data.toList = false from by
        cases h : okXB s.data.toList with
        | false => rfl
        | true =>
          have hk := okXB_okH h
          have e := (HK.out hk).2
          have h1 := spH_lt s hk 8 (Nat.le_refl _)
          rw [List.take_of_length_le (by have := hk.1; simp; omega)] at h1
          have h4 : (16 : Nat) ^ 8 = 4294967296 := by decide
          omega)
      clear HK HV HI HO HT HP
      go_simp
      go_wp2_with (first | (go_at_call 49; refine (HO' _).mono ?_; rintro eq wq ⟨nq, rfl, rfl⟩))
      go_ret2
      exact ⟨by rw [HX.out]; rfl, below_drewN HB.out _⟩
  · have HX := Lib.hid (show okXB s.data.toList = false from by
      cases h : okXB s.data.toList with
      | false => rfl
      | true => have e := (HK.out (okXB_okH h)).1; simp at e)
    clear HK HV HI HO HT HP
    go_simp
    go_wp2
    go_ret2
    exact ⟨by rw [HX.out]; rfl, HB.out⟩
end Go.Proofs.YtbcbaejfafamjaaDoor
