/-
  The eight hexadecimal digits of a number's bits, of the model: the digits one after another behind those that are there. No condition.
-/
import Derived.Test.YtmegolkpnmpbiaaDoorHexN
import Derived.Test.YtmegolkpnmpbiaaDoorBitsS
import Derived.Deep.AppendLies
import Derived.Laws.BytesArg
import Derived.Laws.BitsLemmas
import Derived.OwnWalk
namespace Go.Proofs.YtmegolkpnmpbiaaDoor
open Go.RowKit

/-- The first j of the eight digits. -/
def digH (u j : Nat) : List Int := (List.range j).map fun t => ((hxc (u / 16 ^ (7 - t) % 16) : Nat) : Int)
theorem digH_length (u j : Nat) : (digH u j).length = j := by simp [digH]
theorem digH_succ (u j : Nat) : digH u (j + 1) = digH u j ++ [((hxc (u / 16 ^ (7 - j) % 16) : Nat) : Int)] := by simp [digH, List.range_succ]
def cellsH (u j : Nat) : List Value := (digH u j).map (Value.int .u8)
theorem cellsH_length (u j : Nat) : (cellsH u j).length = j := by simp [cellsH, digH_length]
theorem cellsH_succ (u j : Nat) : cellsH u (j + 1) = cellsH u j ++ [.int .u8 ((hxc (u / 16 ^ (7 - j) % 16) : Nat) : Int)] := by simp [cellsH, digH_succ]
theorem strH (u : Nat) : strOfNums (digH u 8) = ⟨(hex8 u).toArray⟩ := by
  refine bytes_eq ?_
  rw [strOfNums_data]
  simp [digH, hex8, List.map_map, Function.comp]

def lenOf : Value → Nat
  | .slice _ n _ => n
  | _ => 0
theorem ownsRow_zero (w : World) (base : Nat) (e : TypeId) (hb : base ≤ w.heap.size) :
    (w.alloc (.cells #[] e)).ownsRow base e 1 (.slice (some ⟨w.heap.size, 0, none⟩) 0 0) 0 [] :=
  World.ownsRow_made w #[] 0 hb (Nat.zero_le _) rfl

/-- 'append' onto a slice that the call owns, where the new one is not empty: the new value written out. -/
theorem wpList_append_form {P : Program} {w : World} {ops : Array Oper} {rest : List Oper} {o : Oper} {a : Act} {Q : Exit → Act → World → Prop} (hgd : o.guard = none) (s x : Operand) (t : TypeId)
    (ho : o.op = .call { callee := .builtin .append, args := #[s, x], argTypes := #[t, t] })
    (base : Nat) (e : TypeId) (i : TypeInfo) (z : Value) (size bytes : Nat) (ht : P.underlying t = some (.slice e)) (hi : P.info? e = some i) (hz : i.zero = some z)
    (hsize : i.size = size) (hby : i.bytes = bytes) (hzs : z.cells.size = size) (hsz : 0 < size)
    (v : Value) (n : Nat) (xs : List Value) (hs : a.eval s = v) (hown : w.ownsRow base e size v n xs)
    (ad : Addr) (m c : Nat) (news : List Value) (hx : a.eval x = .slice (some ad) m c) (hl : news.length = m * size) (hnews : ∀ j u, news[j]? = some u → w.cell? (ad.add j) = some u) (h1 : ∀ u ∈ news, u.oneCell' = true)
    (h63 : n + m ≤ maxLen) (hbytes : (n + m) * bytes ≤ 140737488355328) (hbase : base ≤ w.heap.size) (hp : 0 < n + m)
    (h : ∀ g cap w', w'.ownsRow base e size (.slice (some ⟨g, 0, none⟩) (n + m) cap) (n + m) (xs ++ news) → w.grownBy w' v.ownBlock → wpList P ops Q rest (a.put o.dst (.slice (some ⟨g, 0, none⟩) (n + m) cap)) w') : wpList P ops Q (o :: rest) a w := by
  refine wpList_append_own w hgd s x t ho base e i z size bytes ht hi hz hsize hby hzs hsz v n xs hs hown ad m c news hx hl hnews h1 h63 hbytes hbase fun v' w' h2 h3 _ => ?_
  obtain ⟨g, cap, rfl, _, hlt⟩ := h2.form hp
  exact h g cap w' h2 h3

theorem infoB : (Tryd.prog.info? 5).map (fun i => (i.zero, i.size, i.bytes)) = some (some (.int .u8 0), 1, 1) := by kernel_rfl

theorem conv_ownH {w : World} {base g n cap : Nat} {zs : List Int} (h : w.ownsRow base 5 1 (.slice (some ⟨g, 0, none⟩) n cap) n (zs.map (Value.int .u8))) :
    (convert 77 9 (.slice (some ⟨g, 0, none⟩) n cap)).run Tryd.prog w = .ok (.string (strOfNums zs)) w := by
  have hl : zs.length = n := by have := h.1; simpa using this
  refine run_convert_bytes_arg w _ _ Tryd.underlying77 Tryd.underlying5 g 0 n cap zs hl (fun i hi => ?_) _ Tryd.underlying9
  have := h.cells (g := g) rfl i (.int .u8 (zs.getD i 0)) (by simp [List.getElem?_eq_getElem (show i < zs.length by omega)])
  rw [Lib.add_plain] at this
  exact this

theorem dig16 (x : Nat) (hx : x < 16) (h : x < (⟨#[48, 49, 50, 51, 52, 53, 54, 55, 56, 57, 97, 98, 99, 100, 101, 102]⟩ : ByteArray).size) :
    ((⟨#[48, 49, 50, 51, 52, 53, 54, 55, 56, 57, 97, 98, 99, 100, 101, 102]⟩ : ByteArray)[x]'h).toNat = hxc x := by
  have key : ∀ y : Fin 16, ((#[48, 49, 50, 51, 52, 53, 54, 55, 56, 57, 97, 98, 99, 100, 101, 102] : Array UInt8).getD y.val 0).toNat = hxc y.val := by decide
  have e := key ⟨x, hx⟩
  rw [Array.getD_eq_getD_getElem?, Array.getElem?_eq_getElem (show x < (#[48, 49, 50, 51, 52, 53, 54, 55, 56, 57, 97, 98, 99, 100, 101, 102] : Array UInt8).size from h)] at e
  exact e
theorem new1 (w : World) (v : Value) (e : TypeId) : ∀ i u, [v][i]? = some u → (w.alloc (.cells #[v] e)).cell? ((⟨w.heap.size, 0, none⟩ : Addr).add i) = some u := by
  intro i u h
  cases i with
  | zero => cases h; exact cell_at (heap_alloc_new w _) rfl
  | succ i => simp at h
theorem and15i (n : Int) : bits .and .i64 n 15 = n % 16 := by
  have h15 : (BitVec.ofInt 64 15).toNat = 2 ^ 4 - 1 := by decide
  have key : (BitVec.ofInt 64 n &&& BitVec.ofInt 64 15).toNat = (n % ((2 ^ 64 : Nat) : Int)).toNat % 2 ^ 4 := by
    rw [BitVec.toNat_and, BitVec.toNat_ofInt, h15, Nat.and_two_pow_sub_one_eq_mod]
  show IntKind.i64.wrap ((BitVec.ofInt 64 n &&& BitVec.ofInt 64 15).toNat : Nat) = n % 16
  rw [key, IntKind.wrap_i64]
  omega
theorem pow16 (j : Nat) (hj : j ≤ 7) : (2 : Int) ^ (28 - 4 * (j : Int)).toNat = ((16 ^ (7 - j) : Nat) : Int) := by
  rw [show (28 - 4 * (j : Int)).toNat = 4 * (7 - j) from by omega, Int.pow_mul]; simp
theorem cellsH_one (u k : Nat) : ∀ c ∈ cellsH u k, c.oneCell' = true := by
  intro c hc
  unfold cellsH at hc
  obtain ⟨z, _, rfl⟩ := List.mem_map.1 hc
  rfl

set_option maxHeartbeats 1600000 in
theorem specHex {x : Nat} {v : Option Nat} (ix : Is .f32 x v) (w : World) :
    Calls Tryd.prog 46 #[.float .f32 x] w (RetS (hex8 (bitsN v)) w) := by
  have hu := bitsN_lt ix
  have HB := fun w => l01Bits_any ix w
  rw [bitsN_I] at HB
  have HL := Lib.hid (strH (bitsN v))
  generalize hex8 (bitsN v) = L at HL
  generalize bitsN v = u at HB HL hu
  obtain ⟨i0, hi, hz0, hz1, hz2⟩ := info_parts infoB
  clear ix
  go_enter Tryd.func46, Tryd.ntmps46
  go_wp2_with (go_at_call 62; refine (HB _).mono ?_; rintro eq wq ⟨nq, rfl, rfl⟩)
  go_loopw [4, 5] (fun o k wr => ∃ (j g cap : Nat) (z : Int), j ≤ 8 ∧ o = .slice (some ⟨g, 0, none⟩) j cap ∧ k = .int .i64 z ∧ z = 28 - 4 * (j : Int) ∧ wr.ownsRow w.heap.size 5 1 o j (cellsH u j) ∧ Below w.heap.size w wr) (fun o _ _ => 8 - lenOf o)
  case atStart => exact ⟨0, _, 0, _, Nat.zero_le _, rfl, rfl, rfl, ownsRow_zero _ _ _ (by simp), (below_drewN (Below.refl _ _) _).alloc (by simp) _⟩
  case round =>
    obtain ⟨j, g, cap, z, hj, rfl, rfl, hz, hown, hb⟩ := hrel
    have hbs := hb.size
    by_cases hlt : j < 8
    · have z0 : 0 ≤ z := by omega
      have z1 : z ≤ 28 := by omega
      obtain ⟨d, hd⟩ : ∃ d : Int, d = ((u / 16 ^ (7 - j) % 16 : Nat) : Int) := ⟨_, rfl⟩
      have d0 : 0 ≤ d := by omega
      have d15 : d < 16 := by omega
      have hsh : bits .and .i64 ((u : Int) / 2 ^ z.toNat) 15 = d := by
        rw [and15i, hz, pow16 j (by omega), hd]
        exact_mod_cast rfl
      have HD := Lib.hid hd
      have HZ := Lib.hid hz
      have HO := Lib.hid hown
      have HBW := Lib.hid hb
      clear hd hz hown hb
      have hdn : d.toNat < 16 := by omega
      have HT := Lib.hid (show d.toNat = u / 16 ^ (7 - j) % 16 from by rw [HD.out]; exact Int.toNat_natCast _)
      have HC := Lib.hid (dig16 d.toNat hdn)
      go_wp2_with (at_builtin; go_loud (refine wpList_append_form (by rfl) (.tmp 13) (.tmp 20) 77 (by rfl) w.heap.size 5 i0 (.int .u8 0) 1 1 Tryd.underlying77 hi hz0 hz1 hz2 rfl (by decide) _ j (cellsH u j) (by rfl) (HO.out.alloc _) ⟨wr.heap.size, 0, none⟩ 1 1 [_] (by rfl) rfl (new1 _ _ _) (fun v h => by rw [List.mem_singleton.1 h]; rfl) (by unfold maxLen; omega) (by omega) (by simp; omega) (by omega) ?_); intro g' cap' w1 hown' hgrow)
      go_roundw
      case rel => exact ⟨j + 1, g', cap', z - 4, by omega, rfl, by go_num, by rw [HZ.out]; omega, by rw [cellsH_succ, ← HT.out, ← HC.out]; exact hown', Below.grown (HBW.out.alloc hbs _) hgrow (by simp; omega) (fun i hi => (HO.out.lt i hi).1)⟩
      case measure => simp [lenOf]; omega
    · have hj8 : j = 8 := by omega
      subst hj8
      have hz' : z = -4 := by omega
      have hcv := conv_ownH (zs := digH u 8) hown
      rw [HL.out] at hcv
      have HBW := Lib.hid hb
      clear hb hown hz
      subst hz'
      go_wp2
      go_ret
      exact ⟨rfl, HBW.out⟩
end Go.Proofs.YtmegolkpnmpbiaaDoor
