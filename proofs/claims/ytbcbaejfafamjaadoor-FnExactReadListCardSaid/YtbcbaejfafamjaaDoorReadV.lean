/-
  The number with a decimal text, of the program and of the model: both tell what the text spells, where it is that number's own numeral and not too great, and no otherwise. Conditions: what the library's table and its two errors hold; the text's length.
-/
import Derived.Test.YtbcbaejfafamjaaDoorVal
import Derived.Test.YtbcbaejfafamjaaDoorDecV
import Derived.Test.YtbcbaejfafamjaaDoorParse
namespace Go.Proofs.YtbcbaejfafamjaaDoor
open Go.RowKit

theorem var_below {w w' : World} {n : String} {g B : Nat} {cs : Array Value} (h : w.var? Tryd.prog n = some cs) (hg : Tryd.prog.globalNamed n = some g) (hb : Below B w w') (hlt : g < B) : w'.var? Tryd.prog n = some cs := by
  unfold World.var? at h ⊢
  rw [hg] at h ⊢
  simp only [Option.bind_some] at h ⊢
  rw [hb.block g hlt]
  exact h

/-- What the library's parts of the world hold. -/
structure LibIs (w : World) : Prop where
  tab : Lib.TabIs Tryd.prog w "internal/strconv.uint64pow10" .u64 Lib.pow10Tab
  syn : ∃ tp p, w.var? Tryd.prog "strconv.ErrSyntax" = some #[.iface tp p]
  rng : ∃ tp p, w.var? Tryd.prog "strconv.ErrRange" = some #[.iface tp p]
  low : 2 < w.heap.size ∧ 3 < w.heap.size

theorem gSyn : Tryd.prog.globalNamed "strconv.ErrSyntax" = some 2 := by kernel_rfl
theorem gRng : Tryd.prog.globalNamed "strconv.ErrRange" = some 3 := by kernel_rfl

theorem LibIs.stays {w w' : World} (h : LibIs w) (hb : Below w.heap.size w w') : LibIs w' := by
  obtain ⟨t, ⟨tp, p, h1⟩, ⟨tq, q, h2⟩, hl⟩ := h
  exact ⟨Joins.tab_stays gPow t hb (Nat.le_refl _), ⟨tp, p, var_below h1 gSyn hb hl.1⟩, ⟨tq, q, var_below h2 gRng hb hl.2⟩, ⟨Nat.lt_of_lt_of_le hl.1 hb.size, Nat.lt_of_lt_of_le hl.2 hb.size⟩⟩

def RetR (l : List UInt8) (w : World) (e : Ending) (w' : World) : Prop := e = .returned (.tuple #[.int .i64 (if okV l then spells l else 0), .bool (okV l)]) ∧ Below w.heap.size w w'

theorem str_ne {a : List UInt8} {s : ByteArray} (h : a ≠ s.data.toList) : (a == s.toList) = false := by
  rw [ByteArray.toList_eq]; simpa using h
theorem str_eq {a : List UInt8} {s : ByteArray} (h : a = s.data.toList) : (a == s.toList) = true := by
  rw [ByteArray.toList_eq]; simpa using h

theorem implRead (s : ByteArray) (hs : s.size ≤ 1048576) (w : World) (hL : LibIs w) : Calls Tryd.prog 29 #[.string s] w (RetR s.data.toList w) := by
  cases hp : Lib.parseIntB 64 s.data.toList with
  | «syntax» =>
    have ho := parse_bad _ (fun v h => by rw [hp] at h; cases h)
    obtain ⟨tp, p, hv⟩ := hL.syn
    have HC := Tryd.strconv_ParseInt_10_at64_syntax_var s (by omega) hp tp p w hv
    unfold RetR
    rw [ho]
    clear ho hp hv hL
    go_enter Tryd.func29, Tryd.ntmps29
    go_wp2_with (go_at_call 44; refine HC.mono ?_; rintro eq wq ⟨N, rfl, -, -, hb⟩)
    go_ret2
    exact ⟨rfl, hb⟩
  | range =>
    have ho := parse_bad _ (fun v h => by rw [hp] at h; cases h)
    obtain ⟨tp, p, hv⟩ := hL.rng
    have HC := Tryd.strconv_ParseInt_10_at64_range_var s (by omega) hp tp p w hv
    unfold RetR
    rw [ho]
    clear ho hp hv hL
    go_enter Tryd.func29, Tryd.ntmps29
    go_wp2_with (go_at_call 44; refine HC.mono ?_; rintro eq wq ⟨N, rfl, -, -, hb⟩)
    go_ret2
    exact ⟨rfl, hb⟩
  | ok v =>
    obtain ⟨hk, hkv⟩ := parse_okV _ v hp
    have hB : -9223372036854775808 ≤ v ∧ v ≤ 9223372036854775807 := by
      have := Lib.parseIntB_64 s.data.toList
      rw [hp] at this
      exact Lib.atoiAll_bounds this.symm
    have HC : Calls Tryd.prog 44 #[.string s, .int .i64 10, .int .i64 64] w fun e w' => e = .returned (.tuple #[.int .i64 v, .nilIface]) ∧ Below w.heap.size w w' :=
      (Tryd.strconv_ParseInt_10_at64_ok s (by omega) v hp w).mono fun e w' ⟨he, hw⟩ => ⟨he, by
        rcases hw with rfl | ⟨t, rfl⟩
        · exact Below.refl _ _
        · exact Lib.bytesWorld_below _ _ _⟩
    have HD := fun (w' : World) (hb : Below w.heap.size w w') => implDec v hB.1 hB.2 w' (hL.stays hb).tab
    unfold RetR
    clear hB hp hL
    by_cases c1 : -1000000000000000 ≤ v
    · by_cases c2 : v ≤ 1000000000000000
      · by_cases c3 : Lib.itoa v = s.data.toList
        · have ho : okV s.data.toList = true := by rw [← hk]; simp [c1, c2, c3]
          have hv := hkv ho
          have hq := str_eq c3
          rw [ho, if_pos rfl, ← hv]
          have HQ := Lib.hid hq
          clear hk hkv ho hv c3 hq
          go_enter Tryd.func29, Tryd.ntmps29
          go_wp2_with (first | (go_at_call 44; refine HC.mono ?_; rintro eq w1 ⟨rfl, hb1⟩) | (go_at_call 45; go_in) | (go_at_call 46; refine (HD w1 hb1).mono ?_; rintro eq w2 ⟨rfl, hb2⟩; have hq := HQ.out))
          go_ret2
          exact ⟨rfl, hb1.trans (hb2.mono hb1.size)⟩
        · have ho : okV s.data.toList = false := by rw [← hk]; simp [c3]
          have hq := str_ne c3
          rw [ho, if_neg (by decide)]
          have HQ := Lib.hid hq
          clear hk hkv ho c3 hq
          go_enter Tryd.func29, Tryd.ntmps29
          go_wp2_with (first | (go_at_call 44; refine HC.mono ?_; rintro eq w1 ⟨rfl, hb1⟩) | (go_at_call 45; go_in) | (go_at_call 46; refine (HD w1 hb1).mono ?_; rintro eq w2 ⟨rfl, hb2⟩; have hq := HQ.out))
          go_ret2
          exact ⟨rfl, hb1.trans (hb2.mono hb1.size)⟩
      · have ho : okV s.data.toList = false := by rw [← hk]; simp [c2]
        rw [ho, if_neg (by decide)]
        clear hk hkv ho HD
        go_enter Tryd.func29, Tryd.ntmps29
        go_wp2_with (first | (go_at_call 44; refine HC.mono ?_; rintro eq w1 ⟨rfl, hb1⟩) | (go_at_call 45; go_in))
        go_ret2
        exact ⟨rfl, hb1⟩
    · have ho : okV s.data.toList = false := by rw [← hk]; simp [c1]
      rw [ho, if_neg (by decide)]
      clear hk hkv ho HD
      go_enter Tryd.func29, Tryd.ntmps29
      go_wp2_with (first | (go_at_call 44; refine HC.mono ?_; rintro eq w1 ⟨rfl, hb1⟩) | (go_at_call 45; go_in))
      go_ret2
      exact ⟨rfl, hb1⟩

theorem take_snocB (s : ByteArray) (k : Nat) (h : k < s.size) : s.data.toList.take (k + 1) = s.data.toList.take k ++ [s[k]] := by
  rw [List.take_succ_eq_append_getElem (by simpa using h)]; rfl

theorem wrap_digit {z c : Int} (h0 : 0 ≤ z) (h1 : z ≤ 10000000000000000) (h2 : c < 256) (h3 : 0 ≤ c) : wrap64 (wrap64 (10 * z) + (c - 48)) = 10 * z + (c - 48) := by
  unfold wrap64; omega

set_option maxHeartbeats 1600000 in
theorem specRead (s : ByteArray) (hs : s.size ≤ 1048576) (w : World) : Calls Tryd.prog 41 #[.string s] w (RetR s.data.toList w) := by
  by_cases c1 : s.size < 1
  · have ho : okV s.data.toList = false := by
      apply Bool.eq_false_iff.2; intro h
      have := (okV_len _ h).1
      have hl : s.data.toList.length = s.size := by simp
      omega
    have c1' : ((s.size : Nat) : Int) < 1 := by omega
    unfold RetR
    rw [ho, if_neg (by decide)]
    clear ho
    go_enter Tryd.func41, Tryd.ntmps41
    go_wp2
    go_ret2
    exact ⟨rfl, Below.refl _ _⟩
  · by_cases c2 : 17 < s.size
    · have ho : okV s.data.toList = false := by
        apply Bool.eq_false_iff.2; intro h
        have := (okV_len _ h).2
        have hl : s.data.toList.length = s.size := by simp
        omega
      have c1' : ¬ ((s.size : Nat) : Int) < 1 := by omega
      have c2' : 17 < ((s.size : Nat) : Int) := by omega
      unfold RetR
      rw [ho, if_neg (by decide)]
      clear ho
      go_enter Tryd.func41, Tryd.ntmps41
      go_wp2
      go_ret2
      exact ⟨rfl, Below.refl _ _⟩
    · have c1' : decide (((s.size : Nat) : Int) < 1) = false := by simp; omega
      have c2' : decide (17 < ((s.size : Nat) : Int)) = false := by simp; omega
      go_enter Tryd.func41, Tryd.ntmps41
      go_wp2
      go_loopw [4, 5] (fun n i wr => ∃ (k : Nat) (z : Int), k ≤ s.size ∧ i = .int .i64 k ∧ n = .int .i64 z ∧ z = (vfold (s.data.toList.take k) : Nat) ∧ wr = w) (fun _ i _ => s.size - (intOf i).toNat)
      case atStart => exact ⟨0, 0, Nat.zero_le _, rfl, rfl, rfl, rfl⟩
      case round =>
        obtain ⟨k, z, hk, rfl, rfl, hz, rfl⟩ := hrel
        have z0 : 0 ≤ z := by omega
        by_cases hlt : k < s.size
        · have hnx := take_snocB s k hlt
          have hv : (vfold (s.data.toList.take (k + 1)) : Nat) = vstep (vfold (s.data.toList.take k)) s[k] := by rw [hnx, vfold_snoc]
          have zb : z ≤ 10000000000000000 := by
            have := vfold_lt (s.data.toList.take k)
            have hl : (s.data.toList.take k).length ≤ 16 := by rw [List.length_take]; omega
            have := Nat.pow_le_pow_right (show 0 < 10 by decide) hl
            omega
          by_cases d1 : 48 ≤ s[k].toNat
          · by_cases d2 : s[k].toNat ≤ 57
            · have hz' : 10 * z + ((s[k].toNat : Int) - 48) = (vfold (s.data.toList.take (k + 1)) : Nat) := by
                rw [hv]; unfold vstep; rw [if_pos ⟨d1, d2⟩]; omega
              have HW := Lib.hid (wrap_digit z0 zb (show (s[k].toNat : Int) < 256 by have := s[k].toNat_lt; omega) (show 0 ≤ (s[k].toNat : Int) by omega))
              have HZ := Lib.hid hz'
              have e1 : (48 : Int) ≤ (s[k].toNat : Int) := by omega
              have e2 : (s[k].toNat : Int) ≤ 57 := by omega
              clear hz' hz hnx hv zb z0 d1 d2
              go_wp2
              go_roundw
              case rel => exact ⟨k + 1, _, by omega, by go_num, by rw [HW.out], HZ.out, trivial⟩
              case measure => simp [intOf]; omega
            · have hz' : z = (vfold (s.data.toList.take (k + 1)) : Nat) := by
                rw [hv]; unfold vstep; rw [if_neg (by omega)]; exact hz
              have HZ := Lib.hid hz'
              have e1 : (48 : Int) ≤ (s[k].toNat : Int) := by omega
              have e2 : ¬ (s[k].toNat : Int) ≤ 57 := by omega
              clear hz' hz hnx hv zb z0 d1 d2
              go_wp2
              go_roundw
              case rel => exact ⟨k + 1, _, by omega, by go_num, rfl, HZ.out, trivial⟩
              case measure => simp [intOf]; omega
          · have hz' : z = (vfold (s.data.toList.take (k + 1)) : Nat) := by
              rw [hv]; unfold vstep; rw [if_neg (by omega)]; exact hz
            have HZ := Lib.hid hz'
            have e1 : ¬ (48 : Int) ≤ (s[k].toNat : Int) := by omega
            clear hz' hz hnx hv zb z0 d1
            go_wp2
            go_roundw
            case rel => exact ⟨k + 1, _, by omega, by go_num, rfl, HZ.out, trivial⟩
            case measure => simp [intOf]; omega
        · have hl : s.data.toList.length = s.size := by simp
          rw [List.take_of_length_le (by omega)] at hz
          have zb : z < 1000000000000000000 := by
            have := vfold_lt s.data.toList
            have := Nat.pow_le_pow_right (show 0 < 10 by decide) (show s.data.toList.length ≤ 17 by omega)
            omega
          have h00 : 0 < s.size := by omega
          have hh : s.data.toList.head? = some s[0] := by
            rw [List.head?_eq_getElem?, List.getElem?_eq_getElem (by omega)]; rfl
          obtain ⟨v, hv⟩ : ∃ v, v = spells s.data.toList := ⟨_, rfl⟩
          have vb : -1000000000000000000 < v ∧ v < 1000000000000000000 := by
            rw [hv]; unfold spells; split <;> omega
          have HS := fun w => specDec v (by omega) (by omega) w
          have hok : okV s.data.toList = (decide (-1000000000000000 ≤ v) && decide (v ≤ 1000000000000000) && (Lib.itoa v == s.data.toList)) := by rw [hv]; rfl
          have hvz : v = if s[0] = 45 then -z else z := by
            rw [hv, hz]; unfold spells
            rw [hh]
            simp only [Option.some.injEq]
          have hW : wrap64 (-z) = -z := by unfold wrap64; omega
          have hkn : k = s.size := by omega
          subst hkn
          by_cases m0 : s[0] = 45
          · have e0 : (s[0].toNat : Int) = 45 := by rw [m0]; rfl
            have hW' : wrap64 (-z) = v := by rw [hW, hvz, if_pos m0]
            clear hW hvz m0 hh zb vb hl hz z0
            by_cases m1 : -1000000000000000 ≤ v
            · by_cases m2 : v ≤ 1000000000000000
              · by_cases m3 : Lib.itoa v = s.data.toList
                · have ho : okV s.data.toList = true := by rw [hok]; simp [m1, m2, m3]
                  have HF := Lib.hid (show (if okV s.data.toList then spells s.data.toList else 0) = v from by rw [ho, if_pos rfl, hv])
                  have HO := Lib.hid ho
                  have HQ := Lib.hid (str_eq m3)
                  clear ho m3 hok hv
                  go_wp2_with (first | (go_at_call 57; go_in) | (go_at_call 58; refine (HS _).mono ?_; rintro eq w2 ⟨rfl, hb2⟩; have hq := HQ.out))
                  go_ret2
                  exact ⟨by rw [HF.out, HO.out]; rfl, hb2⟩
                · have ho : okV s.data.toList = false := by rw [hok]; simp [m3]
                  have HO := Lib.hid ho
                  have HQ := Lib.hid (str_ne m3)
                  clear ho m3 hok hv
                  go_wp2_with (first | (go_at_call 57; go_in) | (go_at_call 58; refine (HS _).mono ?_; rintro eq w2 ⟨rfl, hb2⟩; have hq := HQ.out))
                  go_ret2
                  exact ⟨by rw [HO.out]; rfl, hb2⟩
              · have ho : okV s.data.toList = false := by rw [hok]; simp [m2]
                have HO := Lib.hid ho
                clear ho hok hv HS
                go_wp2_with (first | (go_at_call 57; go_in))
                go_ret2
                exact ⟨by rw [HO.out]; rfl, Below.refl _ _⟩
            · have ho : okV s.data.toList = false := by rw [hok]; simp [m1]
              have HO := Lib.hid ho
              clear ho hok hv HS
              go_wp2_with (first | (go_at_call 57; go_in))
              go_ret2
              exact ⟨by rw [HO.out]; rfl, Below.refl _ _⟩
          · have e0 : ¬ (s[0].toNat : Int) = 45 := fun h => m0 (by apply UInt8.toNat_inj.1; have h45 : (45 : UInt8).toNat = 45 := rfl; omega)
            obtain rfl : v = z := by rw [hvz, if_neg m0]
            clear hW hvz m0 hh zb vb hl hz z0
            by_cases m1 : -1000000000000000 ≤ v
            · by_cases m2 : v ≤ 1000000000000000
              · by_cases m3 : Lib.itoa v = s.data.toList
                · have ho : okV s.data.toList = true := by rw [hok]; simp [m1, m2, m3]
                  have HF := Lib.hid (show (if okV s.data.toList then spells s.data.toList else 0) = v from by rw [ho, if_pos rfl, hv])
                  have HO := Lib.hid ho
                  have HQ := Lib.hid (str_eq m3)
                  clear ho m3 hok hv
                  go_wp2_with (first | (go_at_call 57; go_in) | (go_at_call 58; refine (HS _).mono ?_; rintro eq w2 ⟨rfl, hb2⟩; have hq := HQ.out))
                  go_ret2
                  exact ⟨by rw [HF.out, HO.out]; rfl, hb2⟩
                · have ho : okV s.data.toList = false := by rw [hok]; simp [m3]
                  have HO := Lib.hid ho
                  have HQ := Lib.hid (str_ne m3)
                  clear ho m3 hok hv
                  go_wp2_with (first | (go_at_call 57; go_in) | (go_at_call 58; refine (HS _).mono ?_; rintro eq w2 ⟨rfl, hb2⟩; have hq := HQ.out))
                  go_ret2
                  exact ⟨by rw [HO.out]; rfl, hb2⟩
              · have ho : okV s.data.toList = false := by rw [hok]; simp [m2]
                have HO := Lib.hid ho
                clear ho hok hv HS
                go_wp2_with (first | (go_at_call 57; go_in))
                go_ret2
                exact ⟨by rw [HO.out]; rfl, Below.refl _ _⟩
            · have ho : okV s.data.toList = false := by rw [hok]; simp [m1]
              have HO := Lib.hid ho
              clear ho hok hv HS
              go_wp2_with (first | (go_at_call 57; go_in))
              go_ret2
              exact ⟨by rw [HO.out]; rfl, Below.refl _ _⟩

theorem star_name : "*" ++ "errors.errorString" = "*errors.errorString" := by decide
theorem var_lt {w : World} {n : String} {g : Nat} {cs : Array Value} (h : w.var? Tryd.prog n = some cs) (hg : Tryd.prog.globalNamed n = some g) : g < w.heap.size := by
  unfold World.var? at h
  rw [hg] at h
  simp only [Option.bind_some] at h
  rcases Nat.lt_or_ge g w.heap.size with h' | h'
  · exact h'
  · simp [Array.getElem?_eq_none h'] at h

/-- From the row's condition to what the library reads. -/
theorem lib_of_laid {l : List (String × DataW Unit)} {W : World} (hH : laidMetH Tryd.prog l W ↔ laidMet Tryd.prog l W) {a b : String × DataW Unit} {t1 t2 : List UInt8} {rest : List (String × DataW Unit)}
    (hl : l = a :: b :: ("internal/strconv.uint64pow10", Lib.tabData .u64 Lib.pow10Tab) :: ("strconv.ErrRange", .iface "*errors.errorString" (.ptr (.agg [.lit (.string t1)]))) :: ("strconv.ErrSyntax", .iface "*errors.errorString" (.ptr (.agg [.lit (.string t2)]))) :: rest)
    (h : laidMetH Tryd.prog l W) : LibIs W := by
  have h := hH.1 h
  rw [hl] at h
  have h3 := laidMet.tail (laidMet.tail h)
  have h4 := laidMet.tail h3
  have h5 := laidMet.tail h4
  have hrow : ∀ u, Tryd.prog.typeName? 3 u = some "*errors.errorString" → u = 135 := fun u hu =>
    typeName_ptr_named (nm := "errors.errorString") (by rw [star_name]; kernel_rfl) (by kernel_rfl) (by decide) u (by rw [star_name]; exact hu)
  obtain ⟨a1, s1, hv1, -, -, -⟩ := laid_sentinel h4 gRng (by kernel_rfl) Tryd.underlying64 hrow Tryd.underlying135 Tryd.underlying137 rfl rfl Tryd.underlying9 (by kernel_rfl) (by kernel_rfl)
  obtain ⟨a2, s2, hv2, -, -, -⟩ := laid_sentinel h5 gSyn (by kernel_rfl) Tryd.underlying64 hrow Tryd.underlying135 Tryd.underlying137 rfl rfl Tryd.underlying9 (by kernel_rfl) (by kernel_rfl)
  exact ⟨Lib.tabIs_of_head gPow (by kernel_rfl) Tryd.underlying139 Tryd.underlying95 (by kernel_rfl) (by kernel_rfl) h3, ⟨_, _, hv2⟩, ⟨_, _, hv1⟩, ⟨var_lt hv2 gSyn, var_lt hv1 gRng⟩⟩
end Go.Proofs.YtbcbaejfafamjaaDoor
