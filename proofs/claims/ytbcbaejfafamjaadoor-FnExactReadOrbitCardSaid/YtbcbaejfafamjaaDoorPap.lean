/-
  A number out of hexadecimal digits, of the library (base 16), for any text: it comes back, with an error or none. Conditions: what the library's two errors hold.
-/
import Derived.Test.YtbcbaejfafamjaaDoorPai
import Derived.Test.YtbcbaejfafamjaaDoorErr
namespace Go.Proofs.YtbcbaejfafamjaaDoor
open Go.RowKit

/-- The library's two errors hold something that an error can be. -/
def ErrIs (w : World) : Prop := (∃ te pe, w.cell? ⟨2, 0, none⟩ = some (.iface te pe)) ∧ (∃ te pe, w.cell? ⟨3, 0, none⟩ = some (.iface te pe))
theorem ErrIs.stays {w w' : World} (h : ErrIs w) (hb : Below w.heap.size w w') : ErrIs w' := by
  obtain ⟨⟨a, b, h1⟩, c, d, h2⟩ := h
  exact ⟨⟨a, b, (hb.cell (p := ⟨2, 0, none⟩) (World.block_lt_of_cell? _ _ h1)).trans h1⟩, c, d, (hb.cell (p := ⟨3, 0, none⟩) (World.block_lt_of_cell? _ _ h2)).trans h2⟩

def RetZ (s : ByteArray) (w : World) (e : Ending) (w' : World) : Prop :=
  ∃ (n : Int) (ev : Value), e = .returned (.tuple #[.int .i64 n, ev]) ∧ -9223372036854775808 ≤ n ∧ n < 9223372036854775808 ∧ (ev = .nilIface ∨ ∃ t p, ev = .iface t p) ∧ (okH s → ev = .nilIface ∧ n = (spH s.data.toList : Nat)) ∧ Below w.heap.size w w'

set_option maxHeartbeats 1600000 in
theorem parse16 (s : ByteArray) (hs : s.size ≤ 1048576) (w : World) (hE : ErrIs w) :
    Calls Tryd.prog 44 #[.string s, .int .i64 16, .int .i64 64] w (RetZ s w) := by
  have HC := pi16 s hs w
  obtain ⟨⟨t2, p2, e2⟩, t1, p1, e1⟩ := hE
  have H2 := fun (fn : ByteArray) (w' : World) (hb : Below w.heap.size w w') => Tryd.strconv_toError_syntax fn s 16 64 (.iface t2 p2) w' (by omega) ((hb.cell (p := ⟨2, 0, none⟩) (World.block_lt_of_cell? _ _ e2)).trans e2) (.inr ⟨t2, p2, rfl⟩)
  have H1 := fun (fn : ByteArray) (w' : World) (hb : Below w.heap.size w w') => Tryd.strconv_toError_range fn s 16 64 (.iface t1 p1) w' (by omega) ((hb.cell (p := ⟨3, 0, none⟩) (World.block_lt_of_cell? _ _ e1)).trans e1) (.inr ⟨t1, p1, rfl⟩)
  clear e1 e2
  go_enter Tryd.func44, Tryd.ntmps44
  go_wp2_with (go_at_call 63; refine HC.mono ?_; rintro eq wq ⟨n, ev, rfl, n0, n1, hev, hok, hb⟩; have HB := Lib.hid hb; have HK := Lib.hid hok; have HV := Lib.hid hev; clear hb hok hev)
  rcases HV.out with rfl | rfl | rfl
  · go_simp
    go_wp2
    go_ret2
    exact ⟨_, _, rfl, n0, n1, .inl rfl, fun h => ⟨rfl, (HK.out h).2⟩, HB.out⟩
  · have HN := Lib.hid (show okH s → False from fun h => by have e := (HK.out h).1; simp at e)
    go_simp
    go_wp2_with (go_at_call 64; refine (H2 _ _ HB.out).mono ?_; rintro eq w2 ⟨N, rfl, -, -, hb2⟩)
    go_ret2
    exact ⟨_, _, rfl, n0, n1, .inr ⟨_, _, rfl⟩, fun h => (HN.out h).elim, HB.out.trans (hb2.mono HB.out.size)⟩
  · have HN := Lib.hid (show okH s → False from fun h => by have e := (HK.out h).1; simp at e)
    go_simp
    go_wp2_with (go_at_call 64; refine (H1 _ _ HB.out).mono ?_; rintro eq w2 ⟨N, rfl, -, -, hb2⟩)
    go_ret2
    exact ⟨_, _, rfl, n0, n1, .inr ⟨_, _, rfl⟩, fun h => (HN.out h).elim, HB.out.trans (hb2.mono HB.out.size)⟩
end Go.Proofs.YtbcbaejfafamjaaDoor
