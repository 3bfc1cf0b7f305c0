/-
  No cell of these rows narrows 'for every input' (looked for: loops, veiled, ifaces, maps, wideKeys, modest, calm, conditions, laid).
  DERIVED. THE GIVEN ROWS OF THIS SEAT. 6 by the template 'for every input the law returns true; each argument reads behind the call as it read before'; 0 by the template 'total and deterministic' (their statements: YthajdpfdnihimaaTotals.lean).
  GIVEN WITH THE SEED: the statements are not yours to turn. If you find one false, say at which input.
  Laid BY PROGRAM, IN A SANDBOX (cutbox-rows.mjs): the forced cells as the released guide's own fill.sh prints them over the translation 8981deb0ad3d6177… (all of the seat's roots in one cut). By AI agents, Wed Nov 11 2026. No macro, syntax, notation, axiom, sorry.
-/
import Derived.Test.YthajdpfdnihimaaChecked
import GoSem.Claim
import GoSem.ClaimJoined
import GoSem.ClaimMapViews
import Derived.JoinedTies
import Derived.KernelRfl
namespace Go.Proofs.Ythajdpfdnihimaa
/- THE CELL 'sum', in the pinned program and in every row, IS THE sha256 OF THE DUMP (.gsa) THAT YthajdpfdnihimaaProg.lean LOADS. Nothing in Lean hashes anything: it is a label: what it is worth is what the hold of that sum in a sandbox is worth. -/
noncomputable def Try.pinned : Pinned := { name := "ythajdpfdnihimaa", sum := "8981deb0ad3d6177b50786525b239b087da427dbb39aef94a0cc87cbdc95ae1c", checked := Try.checked }
namespace Rows
def none {H : Type} : Left H := { results := [], args := [] }

/-- 'laws.FnExactValidOrbit': WHATEVER THE INPUT: true; the input reads as it did. -/
def fnExactValidOrbitSpec : ChangeSpec := { name := "fnExactValidOrbit", fn := fun _ => fun
  | [d] => { results := [.lit (.bool true)], args := [d] }
  | _ => none }
def fnExactValidOrbitRow : OpenClaim := { program := "ythajdpfdnihimaa", sum := "8981deb0ad3d6177b50786525b239b087da427dbb39aef94a0cc87cbdc95ae1c", func := "loop.example/g01284/laws.FnExactValidOrbit", spec := "fnExactValidOrbit", inPlace := ["math.Float64bits", "math.Float64frombits"], apart := false }
def FnExactValidOrbitSaid : Prop := fnExactValidOrbitRow.holds Try.pinned (OpenSpec.ofChange fnExactValidOrbitSpec)

/-- ITS FALSE NEIGHBOUR: 'it returns false'. Refute it at one input. -/
def fnExactValidOrbitWrong : ChangeSpec := { name := "fnExactValidOrbit", fn := fun _ => fun
  | [d] => { results := [.lit (.bool false)], args := [d] }
  | _ => none }
def FnExactValidOrbitWrongFalsely : Prop := fnExactValidOrbitRow.holds Try.pinned (OpenSpec.ofChange fnExactValidOrbitWrong)

/-- 'laws.FnExactSameOrbit': WHATEVER THE INPUT: true; the input reads as it did. -/
def fnExactSameOrbitSpec : ChangeSpec := { name := "fnExactSameOrbit", fn := fun _ => fun
  | [d1, d2] => { results := [.lit (.bool true)], args := [d1, d2] }
  | _ => none }
def fnExactSameOrbitRow : OpenClaim := { program := "ythajdpfdnihimaa", sum := "8981deb0ad3d6177b50786525b239b087da427dbb39aef94a0cc87cbdc95ae1c", func := "loop.example/g01284/laws.FnExactSameOrbit", spec := "fnExactSameOrbit", inPlace := ["math.Float32bits"], apart := false }
def FnExactSameOrbitSaid : Prop := fnExactSameOrbitRow.holds Try.pinned (OpenSpec.ofChange fnExactSameOrbitSpec)

/-- ITS FALSE NEIGHBOUR: 'it returns false'. Refute it at one input. -/
def fnExactSameOrbitWrong : ChangeSpec := { name := "fnExactSameOrbit", fn := fun _ => fun
  | [d1, d2] => { results := [.lit (.bool false)], args := [d1, d2] }
  | _ => none }
def FnExactSameOrbitWrongFalsely : Prop := fnExactSameOrbitRow.holds Try.pinned (OpenSpec.ofChange fnExactSameOrbitWrong)

/-- 'laws.FnExactCircleOrbit': WHATEVER THE INPUT: true; the input reads as it did. -/
def fnExactCircleOrbitSpec : ChangeSpec := { name := "fnExactCircleOrbit", fn := fun _ => fun
  | [d] => { results := [.lit (.bool true)], args := [d] }
  | _ => none }
def fnExactCircleOrbitRow : OpenClaim := { program := "ythajdpfdnihimaa", sum := "8981deb0ad3d6177b50786525b239b087da427dbb39aef94a0cc87cbdc95ae1c", func := "loop.example/g01284/laws.FnExactCircleOrbit", spec := "fnExactCircleOrbit", inPlace := ["math.Float64bits", "math.Float64frombits"], apart := false }
def FnExactCircleOrbitSaid : Prop := fnExactCircleOrbitRow.holds Try.pinned (OpenSpec.ofChange fnExactCircleOrbitSpec)

/-- ITS FALSE NEIGHBOUR: 'it returns false'. Refute it at one input. -/
def fnExactCircleOrbitWrong : ChangeSpec := { name := "fnExactCircleOrbit", fn := fun _ => fun
  | [d] => { results := [.lit (.bool false)], args := [d] }
  | _ => none }
def FnExactCircleOrbitWrongFalsely : Prop := fnExactCircleOrbitRow.holds Try.pinned (OpenSpec.ofChange fnExactCircleOrbitWrong)

/-- 'laws.FnExactPhaseOfSwing': WHATEVER THE INPUT: true; the input reads as it did. -/
def fnExactPhaseOfSwingSpec : ChangeSpec := { name := "fnExactPhaseOfSwing", fn := fun _ => fun
  | [d1, d2] => { results := [.lit (.bool true)], args := [d1, d2] }
  | _ => none }
def fnExactPhaseOfSwingRow : OpenClaim := { program := "ythajdpfdnihimaa", sum := "8981deb0ad3d6177b50786525b239b087da427dbb39aef94a0cc87cbdc95ae1c", func := "loop.example/g01284/laws.FnExactPhaseOfSwing", spec := "fnExactPhaseOfSwing", inPlace := ["math.Float64frombits", "math.Float64bits", "math.archTrunc"], apart := false }
def FnExactPhaseOfSwingSaid : Prop := fnExactPhaseOfSwingRow.holds Try.pinned (OpenSpec.ofChange fnExactPhaseOfSwingSpec)

/-- ITS FALSE NEIGHBOUR: 'it returns false'. Refute it at one input. -/
def fnExactPhaseOfSwingWrong : ChangeSpec := { name := "fnExactPhaseOfSwing", fn := fun _ => fun
  | [d1, d2] => { results := [.lit (.bool false)], args := [d1, d2] }
  | _ => none }
def FnExactPhaseOfSwingWrongFalsely : Prop := fnExactPhaseOfSwingRow.holds Try.pinned (OpenSpec.ofChange fnExactPhaseOfSwingWrong)

/-- 'laws.FnExactSwingOf': WHATEVER THE INPUT: true; the input reads as it did. -/
def fnExactSwingOfSpec : ChangeSpec := { name := "fnExactSwingOf", fn := fun _ => fun
  | [d1, d2] => { results := [.lit (.bool true)], args := [d1, d2] }
  | _ => none }
def fnExactSwingOfRow : OpenClaim := { program := "ythajdpfdnihimaa", sum := "8981deb0ad3d6177b50786525b239b087da427dbb39aef94a0cc87cbdc95ae1c", func := "loop.example/g01284/laws.FnExactSwingOf", spec := "fnExactSwingOf", inPlace := ["math.archFloor", "math.Float64bits", "math.Float64frombits", "math.archTrunc"], unfollowed := true, recurses := true, apart := false }
def FnExactSwingOfSaid : Prop := fnExactSwingOfRow.holds Try.pinned (OpenSpec.ofChange fnExactSwingOfSpec)

/-- ITS FALSE NEIGHBOUR: 'it returns false'. Refute it at one input. -/
def fnExactSwingOfWrong : ChangeSpec := { name := "fnExactSwingOf", fn := fun _ => fun
  | [d1, d2] => { results := [.lit (.bool false)], args := [d1, d2] }
  | _ => none }
def FnExactSwingOfWrongFalsely : Prop := fnExactSwingOfRow.holds Try.pinned (OpenSpec.ofChange fnExactSwingOfWrong)

/-- 'laws.FnExactLeanOf': WHATEVER THE INPUT: true; the input reads as it did. -/
def fnExactLeanOfSpec : ChangeSpec := { name := "fnExactLeanOf", fn := fun _ => fun
  | [d1, d2] => { results := [.lit (.bool true)], args := [d1, d2] }
  | _ => none }
def fnExactLeanOfRow : OpenClaim := { program := "ythajdpfdnihimaa", sum := "8981deb0ad3d6177b50786525b239b087da427dbb39aef94a0cc87cbdc95ae1c", func := "loop.example/g01284/laws.FnExactLeanOf", spec := "fnExactLeanOf", inPlace := ["math.Float64frombits", "math.Float64bits"], unfollowed := true, recurses := true, apart := false }
def FnExactLeanOfSaid : Prop := fnExactLeanOfRow.holds Try.pinned (OpenSpec.ofChange fnExactLeanOfSpec)

/-- ITS FALSE NEIGHBOUR: 'it returns false'. Refute it at one input. -/
def fnExactLeanOfWrong : ChangeSpec := { name := "fnExactLeanOf", fn := fun _ => fun
  | [d1, d2] => { results := [.lit (.bool false)], args := [d1, d2] }
  | _ => none }
def FnExactLeanOfWrongFalsely : Prop := fnExactLeanOfRow.holds Try.pinned (OpenSpec.ofChange fnExactLeanOfWrong)

/- THE SECOND FORM. 'bulk': how many values and letters a reading holds, each counted each time it is reached (what is shared counts as often as it is met; a slice's spare places count too). A statement '..UptoSaid' is the law's where the arguments, and the package variables that the reading takes, are together of bulk at most 1048576: NARROWER than '..Said'. Prove '..Said' where nothing that the law and all that it calls make is longer than what came in: it says more and counts as full. Else prove '..UptoSaid'. A law counts once. -/
mutual
def uptoBulk {H : Type} : DataW H → Nat
  | .lit (.string bytes) => bytes.length + 1
  | .lit _ => 1
  | .nil => 1
  | .ptr d => uptoBulk d + 1
  | .slice elems spare => uptoBulkAll elems + uptoBulkAll spare + 1
  | .agg parts => uptoBulkAll parts + 1
  | .iface _ d => uptoBulk d + 1
  | .map entries => uptoBulkEntries entries + 1
  | .held _ => 1
def uptoBulkAll {H : Type} : List (DataW H) → Nat
  | [] => 0
  | d :: r => uptoBulk d + uptoBulkAll r
def uptoBulkEntries {H : Type} : List (Lit × DataW H) → Nat
  | [] => 0
  | x :: r => uptoBulkEntry x + uptoBulkEntries r
def uptoBulkEntry {H : Type} : Lit × DataW H → Nat
  | (.string bytes, d) => bytes.length + uptoBulk d + 1
  | (_, d) => uptoBulk d + 1
 end
def uptoSmall : (H : Type) → List (DataW H) → Bool := fun _ ds => decide (uptoBulkAll ds ≤ 1048576)
def OpenSpec.upto (s : _root_.Go.ChangeSpec) : _root_.Go.OpenSpec := { _root_.Go.OpenSpec.ofChange s with cond := some uptoSmall }

/-- 'laws.FnExactValidOrbit', WHERE WHAT IT READS IS OF BULK AT MOST 1048576: true; the input reads as it did. -/
def fnExactValidOrbitUptoRow : OpenClaim := { program := "ythajdpfdnihimaa", sum := "8981deb0ad3d6177b50786525b239b087da427dbb39aef94a0cc87cbdc95ae1c", func := "loop.example/g01284/laws.FnExactValidOrbit", spec := "fnExactValidOrbit", inPlace := ["math.Float64bits", "math.Float64frombits"], apart := false, narrowed := true }
def FnExactValidOrbitUptoSaid : Prop := fnExactValidOrbitUptoRow.holds Try.pinned (OpenSpec.upto fnExactValidOrbitSpec)

/-- 'laws.FnExactSameOrbit', WHERE WHAT IT READS IS OF BULK AT MOST 1048576: true; the input reads as it did. -/
def fnExactSameOrbitUptoRow : OpenClaim := { program := "ythajdpfdnihimaa", sum := "8981deb0ad3d6177b50786525b239b087da427dbb39aef94a0cc87cbdc95ae1c", func := "loop.example/g01284/laws.FnExactSameOrbit", spec := "fnExactSameOrbit", inPlace := ["math.Float32bits"], apart := false, narrowed := true }
def FnExactSameOrbitUptoSaid : Prop := fnExactSameOrbitUptoRow.holds Try.pinned (OpenSpec.upto fnExactSameOrbitSpec)

/-- 'laws.FnExactCircleOrbit', WHERE WHAT IT READS IS OF BULK AT MOST 1048576: true; the input reads as it did. -/
def fnExactCircleOrbitUptoRow : OpenClaim := { program := "ythajdpfdnihimaa", sum := "8981deb0ad3d6177b50786525b239b087da427dbb39aef94a0cc87cbdc95ae1c", func := "loop.example/g01284/laws.FnExactCircleOrbit", spec := "fnExactCircleOrbit", inPlace := ["math.Float64bits", "math.Float64frombits"], apart := false, narrowed := true }
def FnExactCircleOrbitUptoSaid : Prop := fnExactCircleOrbitUptoRow.holds Try.pinned (OpenSpec.upto fnExactCircleOrbitSpec)

/-- 'laws.FnExactPhaseOfSwing', WHERE WHAT IT READS IS OF BULK AT MOST 1048576: true; the input reads as it did. -/
def fnExactPhaseOfSwingUptoRow : OpenClaim := { program := "ythajdpfdnihimaa", sum := "8981deb0ad3d6177b50786525b239b087da427dbb39aef94a0cc87cbdc95ae1c", func := "loop.example/g01284/laws.FnExactPhaseOfSwing", spec := "fnExactPhaseOfSwing", inPlace := ["math.Float64frombits", "math.Float64bits", "math.archTrunc"], apart := false, narrowed := true }
def FnExactPhaseOfSwingUptoSaid : Prop := fnExactPhaseOfSwingUptoRow.holds Try.pinned (OpenSpec.upto fnExactPhaseOfSwingSpec)

/-- 'laws.FnExactSwingOf', WHERE WHAT IT READS IS OF BULK AT MOST 1048576: true; the input reads as it did. -/
def fnExactSwingOfUptoRow : OpenClaim := { program := "ythajdpfdnihimaa", sum := "8981deb0ad3d6177b50786525b239b087da427dbb39aef94a0cc87cbdc95ae1c", func := "loop.example/g01284/laws.FnExactSwingOf", spec := "fnExactSwingOf", inPlace := ["math.archFloor", "math.Float64bits", "math.Float64frombits", "math.archTrunc"], unfollowed := true, recurses := true, apart := false, narrowed := true }
def FnExactSwingOfUptoSaid : Prop := fnExactSwingOfUptoRow.holds Try.pinned (OpenSpec.upto fnExactSwingOfSpec)

/-- 'laws.FnExactLeanOf', WHERE WHAT IT READS IS OF BULK AT MOST 1048576: true; the input reads as it did. -/
def fnExactLeanOfUptoRow : OpenClaim := { program := "ythajdpfdnihimaa", sum := "8981deb0ad3d6177b50786525b239b087da427dbb39aef94a0cc87cbdc95ae1c", func := "loop.example/g01284/laws.FnExactLeanOf", spec := "fnExactLeanOf", inPlace := ["math.Float64frombits", "math.Float64bits"], unfollowed := true, recurses := true, apart := false, narrowed := true }
def FnExactLeanOfUptoSaid : Prop := fnExactLeanOfUptoRow.holds Try.pinned (OpenSpec.upto fnExactLeanOfSpec)

end Rows
end Go.Proofs.Ythajdpfdnihimaa
