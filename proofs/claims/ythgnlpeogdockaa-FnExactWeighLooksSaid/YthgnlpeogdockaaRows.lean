/-
  No cell of these rows narrows 'for every input' (looked for: loops, veiled, ifaces, maps, wideKeys, modest, calm, conditions, laid).
  DERIVED. THE GIVEN ROWS OF THIS SEAT. 7 by the template 'for every input the law returns true; each argument reads behind the call as it read before'; 0 by the template 'total and deterministic' (their statements: YthgnlpeogdockaaTotals.lean).
  GIVEN WITH THE SEED: the statements are not yours to turn. If you find one false, say at which input.
  Laid BY PROGRAM, IN A SANDBOX (cutbox-rows.mjs): the forced cells as the released guide's own fill.sh prints them over the translation bb306c0d482f54aa… (all of the seat's roots in one cut). By AI agents, Wed Nov 11 2026. No macro, syntax, notation, axiom, sorry.
-/
import Derived.Test.YthgnlpeogdockaaChecked
import GoSem.Claim
import GoSem.ClaimJoined
import GoSem.ClaimMapViews
import Derived.JoinedTies
import Derived.KernelRfl
namespace Go.Proofs.Ythgnlpeogdockaa
/- THE CELL 'sum', in the pinned program and in every row, IS THE sha256 OF THE DUMP (.gsa) THAT YthgnlpeogdockaaProg.lean LOADS. Nothing in Lean hashes anything: it is a label: what it is worth is what the hold of that sum in a sandbox is worth. -/
noncomputable def Try.pinned : Pinned := { name := "ythgnlpeogdockaa", sum := "bb306c0d482f54aa8fc75e8e6714ca9ecad211feca66c24f39b48c918043d8f8", checked := Try.checked }
namespace Rows
def none {H : Type} : Left H := { results := [], args := [] }

/-- 'laws.FnExactAreLooks': WHATEVER THE INPUT: true; the input reads as it did. -/
def fnExactAreLooksSpec : ChangeSpec := { name := "fnExactAreLooks", fn := fun _ => fun
  | [d] => { results := [.lit (.bool true)], args := [d] }
  | _ => none }
def fnExactAreLooksRow : OpenClaim := { program := "ythgnlpeogdockaa", sum := "bb306c0d482f54aa8fc75e8e6714ca9ecad211feca66c24f39b48c918043d8f8", func := "loop.example/g01284/laws.FnExactAreLooks", spec := "fnExactAreLooks", inPlace := ["math.Float64bits", "math.Float64frombits"], unfollowed := true, recurses := true, apart := false }
def FnExactAreLooksSaid : Prop := fnExactAreLooksRow.holds Try.pinned (OpenSpec.ofChange fnExactAreLooksSpec)

/-- ITS FALSE NEIGHBOUR: 'it returns false'. Refute it at one input. -/
def fnExactAreLooksWrong : ChangeSpec := { name := "fnExactAreLooks", fn := fun _ => fun
  | [d] => { results := [.lit (.bool false)], args := [d] }
  | _ => none }
def FnExactAreLooksWrongFalsely : Prop := fnExactAreLooksRow.holds Try.pinned (OpenSpec.ofChange fnExactAreLooksWrong)

/-- 'laws.FnExactSameLooks': WHATEVER THE INPUT: true; the input reads as it did. -/
def fnExactSameLooksSpec : ChangeSpec := { name := "fnExactSameLooks", fn := fun _ => fun
  | [d1, d2] => { results := [.lit (.bool true)], args := [d1, d2] }
  | _ => none }
def fnExactSameLooksRow : OpenClaim := { program := "ythgnlpeogdockaa", sum := "bb306c0d482f54aa8fc75e8e6714ca9ecad211feca66c24f39b48c918043d8f8", func := "loop.example/g01284/laws.FnExactSameLooks", spec := "fnExactSameLooks", inPlace := ["math.Float32bits"], unfollowed := true, recurses := true, apart := false }
def FnExactSameLooksSaid : Prop := fnExactSameLooksRow.holds Try.pinned (OpenSpec.ofChange fnExactSameLooksSpec)

/-- ITS FALSE NEIGHBOUR: 'it returns false'. Refute it at one input. -/
def fnExactSameLooksWrong : ChangeSpec := { name := "fnExactSameLooks", fn := fun _ => fun
  | [d1, d2] => { results := [.lit (.bool false)], args := [d1, d2] }
  | _ => none }
def FnExactSameLooksWrongFalsely : Prop := fnExactSameLooksRow.holds Try.pinned (OpenSpec.ofChange fnExactSameLooksWrong)

/-- 'laws.FnExactValidEntry': WHATEVER THE INPUT: true; the input reads as it did. -/
def fnExactValidEntrySpec : ChangeSpec := { name := "fnExactValidEntry", fn := fun _ => fun
  | [d] => { results := [.lit (.bool true)], args := [d] }
  | _ => none }
def fnExactValidEntryRow : OpenClaim := { program := "ythgnlpeogdockaa", sum := "bb306c0d482f54aa8fc75e8e6714ca9ecad211feca66c24f39b48c918043d8f8", func := "loop.example/g01284/laws.FnExactValidEntry", spec := "fnExactValidEntry", inPlace := ["math.Float64bits", "math.Float64frombits"], apart := false }
def FnExactValidEntrySaid : Prop := fnExactValidEntryRow.holds Try.pinned (OpenSpec.ofChange fnExactValidEntrySpec)

/-- ITS FALSE NEIGHBOUR: 'it returns false'. Refute it at one input. -/
def fnExactValidEntryWrong : ChangeSpec := { name := "fnExactValidEntry", fn := fun _ => fun
  | [d] => { results := [.lit (.bool false)], args := [d] }
  | _ => none }
def FnExactValidEntryWrongFalsely : Prop := fnExactValidEntryRow.holds Try.pinned (OpenSpec.ofChange fnExactValidEntryWrong)

/-- 'laws.FnExactSameEntries': WHATEVER THE INPUT: true; the input reads as it did. -/
def fnExactSameEntriesSpec : ChangeSpec := { name := "fnExactSameEntries", fn := fun _ => fun
  | [d1, d2] => { results := [.lit (.bool true)], args := [d1, d2] }
  | _ => none }
def fnExactSameEntriesRow : OpenClaim := { program := "ythgnlpeogdockaa", sum := "bb306c0d482f54aa8fc75e8e6714ca9ecad211feca66c24f39b48c918043d8f8", func := "loop.example/g01284/laws.FnExactSameEntries", spec := "fnExactSameEntries", inPlace := ["math.Float32bits"], unfollowed := true, recurses := true, apart := false }
def FnExactSameEntriesSaid : Prop := fnExactSameEntriesRow.holds Try.pinned (OpenSpec.ofChange fnExactSameEntriesSpec)

/-- ITS FALSE NEIGHBOUR: 'it returns false'. Refute it at one input. -/
def fnExactSameEntriesWrong : ChangeSpec := { name := "fnExactSameEntries", fn := fun _ => fun
  | [d1, d2] => { results := [.lit (.bool false)], args := [d1, d2] }
  | _ => none }
def FnExactSameEntriesWrongFalsely : Prop := fnExactSameEntriesRow.holds Try.pinned (OpenSpec.ofChange fnExactSameEntriesWrong)

/-- 'laws.FnExactAreEntries': WHATEVER THE INPUT: true; the input reads as it did. -/
def fnExactAreEntriesSpec : ChangeSpec := { name := "fnExactAreEntries", fn := fun _ => fun
  | [d] => { results := [.lit (.bool true)], args := [d] }
  | _ => none }
def fnExactAreEntriesRow : OpenClaim := { program := "ythgnlpeogdockaa", sum := "bb306c0d482f54aa8fc75e8e6714ca9ecad211feca66c24f39b48c918043d8f8", func := "loop.example/g01284/laws.FnExactAreEntries", spec := "fnExactAreEntries", inPlace := ["math.Float64bits", "math.Float64frombits"], apart := false }
def FnExactAreEntriesSaid : Prop := fnExactAreEntriesRow.holds Try.pinned (OpenSpec.ofChange fnExactAreEntriesSpec)

/-- ITS FALSE NEIGHBOUR: 'it returns false'. Refute it at one input. -/
def fnExactAreEntriesWrong : ChangeSpec := { name := "fnExactAreEntries", fn := fun _ => fun
  | [d] => { results := [.lit (.bool false)], args := [d] }
  | _ => none }
def FnExactAreEntriesWrongFalsely : Prop := fnExactAreEntriesRow.holds Try.pinned (OpenSpec.ofChange fnExactAreEntriesWrong)

/-- 'laws.FnExactFindEntry': WHATEVER THE INPUT: true; the input reads as it did. -/
def fnExactFindEntrySpec : ChangeSpec := { name := "fnExactFindEntry", fn := fun _ => fun
  | [d1, d2] => { results := [.lit (.bool true)], args := [d1, d2] }
  | _ => none }
def fnExactFindEntryRow : OpenClaim := { program := "ythgnlpeogdockaa", sum := "bb306c0d482f54aa8fc75e8e6714ca9ecad211feca66c24f39b48c918043d8f8", func := "loop.example/g01284/laws.FnExactFindEntry", spec := "fnExactFindEntry", inPlace := ["math.Float64bits", "math.Float64frombits"], unfollowed := true, recurses := true, apart := false }
def FnExactFindEntrySaid : Prop := fnExactFindEntryRow.holds Try.pinned (OpenSpec.ofChange fnExactFindEntrySpec)

/-- ITS FALSE NEIGHBOUR: 'it returns false'. Refute it at one input. -/
def fnExactFindEntryWrong : ChangeSpec := { name := "fnExactFindEntry", fn := fun _ => fun
  | [d1, d2] => { results := [.lit (.bool false)], args := [d1, d2] }
  | _ => none }
def FnExactFindEntryWrongFalsely : Prop := fnExactFindEntryRow.holds Try.pinned (OpenSpec.ofChange fnExactFindEntryWrong)

/-- 'laws.FnExactWeighLooks': WHATEVER THE INPUT: true; the input reads as it did. -/
def fnExactWeighLooksSpec : ChangeSpec := { name := "fnExactWeighLooks", fn := fun _ => fun
  | [d1, d2] => { results := [.lit (.bool true)], args := [d1, d2] }
  | _ => none }
def fnExactWeighLooksRow : OpenClaim := { program := "ythgnlpeogdockaa", sum := "bb306c0d482f54aa8fc75e8e6714ca9ecad211feca66c24f39b48c918043d8f8", func := "loop.example/g01284/laws.FnExactWeighLooks", spec := "fnExactWeighLooks", inPlace := ["math.Float64bits", "math.Float64frombits"], unfollowed := true, recurses := true, apart := false }
def FnExactWeighLooksSaid : Prop := fnExactWeighLooksRow.holds Try.pinned (OpenSpec.ofChange fnExactWeighLooksSpec)

/-- ITS FALSE NEIGHBOUR: 'it returns false'. Refute it at one input. -/
def fnExactWeighLooksWrong : ChangeSpec := { name := "fnExactWeighLooks", fn := fun _ => fun
  | [d1, d2] => { results := [.lit (.bool false)], args := [d1, d2] }
  | _ => none }
def FnExactWeighLooksWrongFalsely : Prop := fnExactWeighLooksRow.holds Try.pinned (OpenSpec.ofChange fnExactWeighLooksWrong)

/- THE SECOND FORM. 'bulk': how many values and letters a reading holds, each counted each time it is reached (what is shared counts as often as it is met; a slice's spare places count too). A statement '..UptoSaid' is the law's where the arguments, and the package variables that the reading takes, are together of bulk at most 1048576: NARROWER than '..Said'. Prove '..Said' where nothing that the law and all that it calls make is longer than what came in: it says more and counts as full. Else prove '..UptoSaid'. A law counts once. -/
mutual
def uptoBulk {H : Type} : DataW H → Nat
  | .lit (.string bytes) => bytes.length + 1
  | .lit _ => 1
  | .nil => 1
  | .ptr d => uptoBulk d + 1
  | .slice elems spare => uptoBulkAll elems + uptoBulkAll spare + 1
  | .agg parts => uptoBulkAll parts + 1
  | .iface _ d => uptoBulk d + 1
  | .map entries => uptoBulkEntries entries + 1
  | .held _ => 1
def uptoBulkAll {H : Type} : List (DataW H) → Nat
  | [] => 0
  | d :: r => uptoBulk d + uptoBulkAll r
def uptoBulkEntries {H : Type} : List (Lit × DataW H) → Nat
  | [] => 0
  | x :: r => uptoBulkEntry x + uptoBulkEntries r
def uptoBulkEntry {H : Type} : Lit × DataW H → Nat
  | (.string bytes, d) => bytes.length + uptoBulk d + 1
  | (_, d) => uptoBulk d + 1
 end
def uptoSmall : (H : Type) → List (DataW H) → Bool := fun _ ds => decide (uptoBulkAll ds ≤ 1048576)
def OpenSpec.upto (s : _root_.Go.ChangeSpec) : _root_.Go.OpenSpec := { _root_.Go.OpenSpec.ofChange s with cond := some uptoSmall }

/-- 'laws.FnExactAreLooks', WHERE WHAT IT READS IS OF BULK AT MOST 1048576: true; the input reads as it did. -/
def fnExactAreLooksUptoRow : OpenClaim := { program := "ythgnlpeogdockaa", sum := "bb306c0d482f54aa8fc75e8e6714ca9ecad211feca66c24f39b48c918043d8f8", func := "loop.example/g01284/laws.FnExactAreLooks", spec := "fnExactAreLooks", inPlace := ["math.Float64bits", "math.Float64frombits"], unfollowed := true, recurses := true, apart := false, narrowed := true }
def FnExactAreLooksUptoSaid : Prop := fnExactAreLooksUptoRow.holds Try.pinned (OpenSpec.upto fnExactAreLooksSpec)

/-- 'laws.FnExactSameLooks', WHERE WHAT IT READS IS OF BULK AT MOST 1048576: true; the input reads as it did. -/
def fnExactSameLooksUptoRow : OpenClaim := { program := "ythgnlpeogdockaa", sum := "bb306c0d482f54aa8fc75e8e6714ca9ecad211feca66c24f39b48c918043d8f8", func := "loop.example/g01284/laws.FnExactSameLooks", spec := "fnExactSameLooks", inPlace := ["math.Float32bits"], unfollowed := true, recurses := true, apart := false, narrowed := true }
def FnExactSameLooksUptoSaid : Prop := fnExactSameLooksUptoRow.holds Try.pinned (OpenSpec.upto fnExactSameLooksSpec)

/-- 'laws.FnExactValidEntry', WHERE WHAT IT READS IS OF BULK AT MOST 1048576: true; the input reads as it did. -/
def fnExactValidEntryUptoRow : OpenClaim := { program := "ythgnlpeogdockaa", sum := "bb306c0d482f54aa8fc75e8e6714ca9ecad211feca66c24f39b48c918043d8f8", func := "loop.example/g01284/laws.FnExactValidEntry", spec := "fnExactValidEntry", inPlace := ["math.Float64bits", "math.Float64frombits"], apart := false, narrowed := true }
def FnExactValidEntryUptoSaid : Prop := fnExactValidEntryUptoRow.holds Try.pinned (OpenSpec.upto fnExactValidEntrySpec)

/-- 'laws.FnExactSameEntries', WHERE WHAT IT READS IS OF BULK AT MOST 1048576: true; the input reads as it did. -/
def fnExactSameEntriesUptoRow : OpenClaim := { program := "ythgnlpeogdockaa", sum := "bb306c0d482f54aa8fc75e8e6714ca9ecad211feca66c24f39b48c918043d8f8", func := "loop.example/g01284/laws.FnExactSameEntries", spec := "fnExactSameEntries", inPlace := ["math.Float32bits"], unfollowed := true, recurses := true, apart := false, narrowed := true }
def FnExactSameEntriesUptoSaid : Prop := fnExactSameEntriesUptoRow.holds Try.pinned (OpenSpec.upto fnExactSameEntriesSpec)

/-- 'laws.FnExactAreEntries', WHERE WHAT IT READS IS OF BULK AT MOST 1048576: true; the input reads as it did. -/
def fnExactAreEntriesUptoRow : OpenClaim := { program := "ythgnlpeogdockaa", sum := "bb306c0d482f54aa8fc75e8e6714ca9ecad211feca66c24f39b48c918043d8f8", func := "loop.example/g01284/laws.FnExactAreEntries", spec := "fnExactAreEntries", inPlace := ["math.Float64bits", "math.Float64frombits"], apart := false, narrowed := true }
def FnExactAreEntriesUptoSaid : Prop := fnExactAreEntriesUptoRow.holds Try.pinned (OpenSpec.upto fnExactAreEntriesSpec)

/-- 'laws.FnExactFindEntry', WHERE WHAT IT READS IS OF BULK AT MOST 1048576: true; the input reads as it did. -/
def fnExactFindEntryUptoRow : OpenClaim := { program := "ythgnlpeogdockaa", sum := "bb306c0d482f54aa8fc75e8e6714ca9ecad211feca66c24f39b48c918043d8f8", func := "loop.example/g01284/laws.FnExactFindEntry", spec := "fnExactFindEntry", inPlace := ["math.Float64bits", "math.Float64frombits"], unfollowed := true, recurses := true, apart := false, narrowed := true }
def FnExactFindEntryUptoSaid : Prop := fnExactFindEntryUptoRow.holds Try.pinned (OpenSpec.upto fnExactFindEntrySpec)

/-- 'laws.FnExactWeighLooks', WHERE WHAT IT READS IS OF BULK AT MOST 1048576: true; the input reads as it did. -/
def fnExactWeighLooksUptoRow : OpenClaim := { program := "ythgnlpeogdockaa", sum := "bb306c0d482f54aa8fc75e8e6714ca9ecad211feca66c24f39b48c918043d8f8", func := "loop.example/g01284/laws.FnExactWeighLooks", spec := "fnExactWeighLooks", inPlace := ["math.Float64bits", "math.Float64frombits"], unfollowed := true, recurses := true, apart := false, narrowed := true }
def FnExactWeighLooksUptoSaid : Prop := fnExactWeighLooksUptoRow.holds Try.pinned (OpenSpec.upto fnExactWeighLooksSpec)

end Rows
end Go.Proofs.Ythgnlpeogdockaa
