/-
  Whether a list has bodies, of the model: the function that is called. No condition.
-/
import Derived.Test.YtjljdnkedbejaaaAreS
namespace Go.Proofs.Ytjljdnkedbejaaa
open Go.RowKit

theorem specAre (b off n cap : Nat) (f : Nat → Nat) (v : Nat → Option Nat) (w : World) (hn : n ≤ 1048576) (hb : b < w.heap.size) (hr : ∀ i, i < 7 * n → w.cell? ⟨b, off + i, none⟩ = some (.float .f32 (f i))) (hv : ∀ i, i < 7 * n → Is .f32 (f i) (v i)) :
    Calls Try.prog 15 #[.slice (some ⟨b, off, none⟩) n cap] w fun e w' => e = .returned (.bool (areB v n)) ∧ Below w.heap.size w w' := by
  have HC := sAre b off n cap f v w hn hb hr hv
  clear hr hv
  go_enter Try.func15, Try.ntmps15
  go_wp2_with (go_at_call 26; refine HC.mono ?_; rintro eq wq ⟨rfl, hb⟩)
  go_ret
  exact ⟨rfl, hb⟩

end Go.Proofs.Ytjljdnkedbejaaa
