/-
  No cell of these rows narrows 'for every input' (looked for: loops, veiled, ifaces, maps, wideKeys, modest, calm, conditions, laid).
  DERIVED. THE GIVEN ROWS OF THIS SEAT. 5 by the template 'for every input the law returns true; each argument reads behind the call as it read before'; 0 by the template 'total and deterministic' (their statements: YtkhinppmldodiaaTotals.lean).
  GIVEN WITH THE SEED: the statements are not yours to turn. If you find one false, say at which input.
  Laid BY PROGRAM, IN A SANDBOX (cutbox-rows.mjs): the forced cells as the released guide's own fill.sh prints them over the translation 7981f15ff43c9c2d… (all of the seat's roots in one cut). By AI agents, Wed Nov 11 2026. No macro, syntax, notation, axiom, sorry.
-/
import Derived.Test.YtkhinppmldodiaaChecked
import GoSem.Claim
import GoSem.ClaimJoined
import GoSem.ClaimMapViews
import Derived.JoinedTies
import Derived.KernelRfl
namespace Go.Proofs.Ytkhinppmldodiaa
/- THE CELL 'sum', in the pinned program and in every row, IS THE sha256 OF THE DUMP (.gsa) THAT YtkhinppmldodiaaProg.lean LOADS. Nothing in Lean hashes anything: it is a label: what it is worth is what the hold of that sum in a sandbox is worth. -/
noncomputable def Try.pinned : Pinned := { name := "ytkhinppmldodiaa", sum := "7981f15ff43c9c2d85b94f75cd0a9505fb5cb90a9668b348eeb7b9cd9592b7c4", checked := Try.checked }
namespace Rows
def none {H : Type} : Left H := { results := [], args := [] }

/-- 'laws.FnExactSameBodies': WHATEVER THE INPUT: true; the input reads as it did. -/
def fnExactSameBodiesSpec : ChangeSpec := { name := "fnExactSameBodies", fn := fun _ => fun
  | [d1, d2] => { results := [.lit (.bool true)], args := [d1, d2] }
  | _ => none }
def fnExactSameBodiesRow : OpenClaim := { program := "ytkhinppmldodiaa", sum := "7981f15ff43c9c2d85b94f75cd0a9505fb5cb90a9668b348eeb7b9cd9592b7c4", func := "loop.example/g01284/laws.FnExactSameBodies", spec := "fnExactSameBodies", inPlace := ["math.Float32bits"], unfollowed := true, recurses := true, apart := false }
def FnExactSameBodiesSaid : Prop := fnExactSameBodiesRow.holds Try.pinned (OpenSpec.ofChange fnExactSameBodiesSpec)

/-- ITS FALSE NEIGHBOUR: 'it returns false'. Refute it at one input. -/
def fnExactSameBodiesWrong : ChangeSpec := { name := "fnExactSameBodies", fn := fun _ => fun
  | [d1, d2] => { results := [.lit (.bool false)], args := [d1, d2] }
  | _ => none }
def FnExactSameBodiesWrongFalsely : Prop := fnExactSameBodiesRow.holds Try.pinned (OpenSpec.ofChange fnExactSameBodiesWrong)

/-- 'laws.FnExactMoveBodies': WHATEVER THE INPUT: true; the input reads as it did. -/
def fnExactMoveBodiesSpec : ChangeSpec := { name := "fnExactMoveBodies", fn := fun _ => fun
  | [d1, d2, d3] => { results := [.lit (.bool true)], args := [d1, d2, d3] }
  | _ => none }
def fnExactMoveBodiesRow : OpenClaim := { program := "ytkhinppmldodiaa", sum := "7981f15ff43c9c2d85b94f75cd0a9505fb5cb90a9668b348eeb7b9cd9592b7c4", func := "loop.example/g01284/laws.FnExactMoveBodies", spec := "fnExactMoveBodies", inPlace := ["math.Float64bits", "math.Float64frombits"], unfollowed := true, recurses := true, apart := false }
def FnExactMoveBodiesSaid : Prop := fnExactMoveBodiesRow.holds Try.pinned (OpenSpec.ofChange fnExactMoveBodiesSpec)

/-- ITS FALSE NEIGHBOUR: 'it returns false'. Refute it at one input. -/
def fnExactMoveBodiesWrong : ChangeSpec := { name := "fnExactMoveBodies", fn := fun _ => fun
  | [d1, d2, d3] => { results := [.lit (.bool false)], args := [d1, d2, d3] }
  | _ => none }
def FnExactMoveBodiesWrongFalsely : Prop := fnExactMoveBodiesRow.holds Try.pinned (OpenSpec.ofChange fnExactMoveBodiesWrong)

/-- 'laws.FnExactTurningOfBodies': WHATEVER THE INPUT: true; the input reads as it did. -/
def fnExactTurningOfBodiesSpec : ChangeSpec := { name := "fnExactTurningOfBodies", fn := fun _ => fun
  | [d] => { results := [.lit (.bool true)], args := [d] }
  | _ => none }
def fnExactTurningOfBodiesRow : OpenClaim := { program := "ytkhinppmldodiaa", sum := "7981f15ff43c9c2d85b94f75cd0a9505fb5cb90a9668b348eeb7b9cd9592b7c4", func := "loop.example/g01284/laws.FnExactTurningOfBodies", spec := "fnExactTurningOfBodies", inPlace := ["math.Float64bits", "math.Float64frombits"], unfollowed := true, recurses := true, apart := false }
def FnExactTurningOfBodiesSaid : Prop := fnExactTurningOfBodiesRow.holds Try.pinned (OpenSpec.ofChange fnExactTurningOfBodiesSpec)

/-- ITS FALSE NEIGHBOUR: 'it returns false'. Refute it at one input. -/
def fnExactTurningOfBodiesWrong : ChangeSpec := { name := "fnExactTurningOfBodies", fn := fun _ => fun
  | [d] => { results := [.lit (.bool false)], args := [d] }
  | _ => none }
def FnExactTurningOfBodiesWrongFalsely : Prop := fnExactTurningOfBodiesRow.holds Try.pinned (OpenSpec.ofChange fnExactTurningOfBodiesWrong)

/-- 'laws.FnExactCentreOfBodies': WHATEVER THE INPUT: true; the input reads as it did. -/
def fnExactCentreOfBodiesSpec : ChangeSpec := { name := "fnExactCentreOfBodies", fn := fun _ => fun
  | [d] => { results := [.lit (.bool true)], args := [d] }
  | _ => none }
def fnExactCentreOfBodiesRow : OpenClaim := { program := "ytkhinppmldodiaa", sum := "7981f15ff43c9c2d85b94f75cd0a9505fb5cb90a9668b348eeb7b9cd9592b7c4", func := "loop.example/g01284/laws.FnExactCentreOfBodies", spec := "fnExactCentreOfBodies", inPlace := ["math.Float64bits", "math.Float64frombits"], unfollowed := true, recurses := true, apart := false }
def FnExactCentreOfBodiesSaid : Prop := fnExactCentreOfBodiesRow.holds Try.pinned (OpenSpec.ofChange fnExactCentreOfBodiesSpec)

/-- ITS FALSE NEIGHBOUR: 'it returns false'. Refute it at one input. -/
def fnExactCentreOfBodiesWrong : ChangeSpec := { name := "fnExactCentreOfBodies", fn := fun _ => fun
  | [d] => { results := [.lit (.bool false)], args := [d] }
  | _ => none }
def FnExactCentreOfBodiesWrongFalsely : Prop := fnExactCentreOfBodiesRow.holds Try.pinned (OpenSpec.ofChange fnExactCentreOfBodiesWrong)

/-- 'laws.FnExactRestBodies': WHATEVER THE INPUT: true; the input reads as it did. -/
def fnExactRestBodiesSpec : ChangeSpec := { name := "fnExactRestBodies", fn := fun _ => fun
  | [d] => { results := [.lit (.bool true)], args := [d] }
  | _ => none }
def fnExactRestBodiesRow : OpenClaim := { program := "ytkhinppmldodiaa", sum := "7981f15ff43c9c2d85b94f75cd0a9505fb5cb90a9668b348eeb7b9cd9592b7c4", func := "loop.example/g01284/laws.FnExactRestBodies", spec := "fnExactRestBodies", inPlace := ["math.Float64bits", "math.Float64frombits"], unfollowed := true, recurses := true, apart := false }
def FnExactRestBodiesSaid : Prop := fnExactRestBodiesRow.holds Try.pinned (OpenSpec.ofChange fnExactRestBodiesSpec)

/-- ITS FALSE NEIGHBOUR: 'it returns false'. Refute it at one input. -/
def fnExactRestBodiesWrong : ChangeSpec := { name := "fnExactRestBodies", fn := fun _ => fun
  | [d] => { results := [.lit (.bool false)], args := [d] }
  | _ => none }
def FnExactRestBodiesWrongFalsely : Prop := fnExactRestBodiesRow.holds Try.pinned (OpenSpec.ofChange fnExactRestBodiesWrong)

/- THE SECOND FORM. 'bulk': how many values and letters a reading holds, each counted each time it is reached (what is shared counts as often as it is met; a slice's spare places count too). A statement '..UptoSaid' is the law's where the arguments, and the package variables that the reading takes, are together of bulk at most 1048576: NARROWER than '..Said'. Prove '..Said' where nothing that the law and all that it calls make is longer than what came in: it says more and counts as full. Else prove '..UptoSaid'. A law counts once. -/
mutual
def uptoBulk {H : Type} : DataW H → Nat
  | .lit (.string bytes) => bytes.length + 1
  | .lit _ => 1
  | .nil => 1
  | .ptr d => uptoBulk d + 1
  | .slice elems spare => uptoBulkAll elems + uptoBulkAll spare + 1
  | .agg parts => uptoBulkAll parts + 1
  | .iface _ d => uptoBulk d + 1
  | .map entries => uptoBulkEntries entries + 1
  | .held _ => 1
def uptoBulkAll {H : Type} : List (DataW H) → Nat
  | [] => 0
  | d :: r => uptoBulk d + uptoBulkAll r
def uptoBulkEntries {H : Type} : List (Lit × DataW H) → Nat
  | [] => 0
  | x :: r => uptoBulkEntry x + uptoBulkEntries r
def uptoBulkEntry {H : Type} : Lit × DataW H → Nat
  | (.string bytes, d) => bytes.length + uptoBulk d + 1
  | (_, d) => uptoBulk d + 1
 end
def uptoSmall : (H : Type) → List (DataW H) → Bool := fun _ ds => decide (uptoBulkAll ds ≤ 1048576)
def OpenSpec.upto (s : _root_.Go.ChangeSpec) : _root_.Go.OpenSpec := { _root_.Go.OpenSpec.ofChange s with cond := some uptoSmall }

/-- 'laws.FnExactSameBodies', WHERE WHAT IT READS IS OF BULK AT MOST 1048576: true; the input reads as it did. -/
def fnExactSameBodiesUptoRow : OpenClaim := { program := "ytkhinppmldodiaa", sum := "7981f15ff43c9c2d85b94f75cd0a9505fb5cb90a9668b348eeb7b9cd9592b7c4", func := "loop.example/g01284/laws.FnExactSameBodies", spec := "fnExactSameBodies", inPlace := ["math.Float32bits"], unfollowed := true, recurses := true, apart := false, narrowed := true }
def FnExactSameBodiesUptoSaid : Prop := fnExactSameBodiesUptoRow.holds Try.pinned (OpenSpec.upto fnExactSameBodiesSpec)

/-- 'laws.FnExactMoveBodies', WHERE WHAT IT READS IS OF BULK AT MOST 1048576: true; the input reads as it did. -/
def fnExactMoveBodiesUptoRow : OpenClaim := { program := "ytkhinppmldodiaa", sum := "7981f15ff43c9c2d85b94f75cd0a9505fb5cb90a9668b348eeb7b9cd9592b7c4", func := "loop.example/g01284/laws.FnExactMoveBodies", spec := "fnExactMoveBodies", inPlace := ["math.Float64bits", "math.Float64frombits"], unfollowed := true, recurses := true, apart := false, narrowed := true }
def FnExactMoveBodiesUptoSaid : Prop := fnExactMoveBodiesUptoRow.holds Try.pinned (OpenSpec.upto fnExactMoveBodiesSpec)

/-- 'laws.FnExactTurningOfBodies', WHERE WHAT IT READS IS OF BULK AT MOST 1048576: true; the input reads as it did. -/
def fnExactTurningOfBodiesUptoRow : OpenClaim := { program := "ytkhinppmldodiaa", sum := "7981f15ff43c9c2d85b94f75cd0a9505fb5cb90a9668b348eeb7b9cd9592b7c4", func := "loop.example/g01284/laws.FnExactTurningOfBodies", spec := "fnExactTurningOfBodies", inPlace := ["math.Float64bits", "math.Float64frombits"], unfollowed := true, recurses := true, apart := false, narrowed := true }
def FnExactTurningOfBodiesUptoSaid : Prop := fnExactTurningOfBodiesUptoRow.holds Try.pinned (OpenSpec.upto fnExactTurningOfBodiesSpec)

/-- 'laws.FnExactCentreOfBodies', WHERE WHAT IT READS IS OF BULK AT MOST 1048576: true; the input reads as it did. -/
def fnExactCentreOfBodiesUptoRow : OpenClaim := { program := "ytkhinppmldodiaa", sum := "7981f15ff43c9c2d85b94f75cd0a9505fb5cb90a9668b348eeb7b9cd9592b7c4", func := "loop.example/g01284/laws.FnExactCentreOfBodies", spec := "fnExactCentreOfBodies", inPlace := ["math.Float64bits", "math.Float64frombits"], unfollowed := true, recurses := true, apart := false, narrowed := true }
def FnExactCentreOfBodiesUptoSaid : Prop := fnExactCentreOfBodiesUptoRow.holds Try.pinned (OpenSpec.upto fnExactCentreOfBodiesSpec)

/-- 'laws.FnExactRestBodies', WHERE WHAT IT READS IS OF BULK AT MOST 1048576: true; the input reads as it did. -/
def fnExactRestBodiesUptoRow : OpenClaim := { program := "ytkhinppmldodiaa", sum := "7981f15ff43c9c2d85b94f75cd0a9505fb5cb90a9668b348eeb7b9cd9592b7c4", func := "loop.example/g01284/laws.FnExactRestBodies", spec := "fnExactRestBodies", inPlace := ["math.Float64bits", "math.Float64frombits"], unfollowed := true, recurses := true, apart := false, narrowed := true }
def FnExactRestBodiesUptoSaid : Prop := fnExactRestBodiesUptoRow.holds Try.pinned (OpenSpec.upto fnExactRestBodiesSpec)

end Rows
end Go.Proofs.Ytkhinppmldodiaa
