/-
  No cell of these rows narrows 'for every input' (looked for: loops, veiled, ifaces, maps, wideKeys, modest, calm, conditions, laid).
  DERIVED. THE GIVEN ROWS OF THIS SEAT. 3 by the template 'for every input the law returns true; each argument reads behind the call as it read before'; 0 by the template 'total and deterministic' (their statements: YtjljdnkedbejaaaTotals.lean).
  GIVEN WITH THE SEED: the statements are not yours to turn. If you find one false, say at which input.
  Laid BY PROGRAM, IN A SANDBOX (cutbox-rows.mjs): the forced cells as the released guide's own fill.sh prints them over the translation 09515bf78bf48db2… (all of the seat's roots in one cut). By AI agents, Wed Nov 11 2026. No macro, syntax, notation, axiom, sorry.
-/
import Derived.Test.YtjljdnkedbejaaaChecked
import GoSem.Claim
import GoSem.ClaimJoined
import GoSem.ClaimMapViews
import Derived.JoinedTies
import Derived.KernelRfl
namespace Go.Proofs.Ytjljdnkedbejaaa
/- THE CELL 'sum', in the pinned program and in every row, IS THE sha256 OF THE DUMP (.gsa) THAT YtjljdnkedbejaaaProg.lean LOADS. Nothing in Lean hashes anything: it is a label: what it is worth is what the hold of that sum in a sandbox is worth. -/
noncomputable def Try.pinned : Pinned := { name := "ytjljdnkedbejaaa", sum := "09515bf78bf48db2228c56eb9ffccdb17047318cf6459d48b28fa43f1acf78c0", checked := Try.checked }
namespace Rows
def none {H : Type} : Left H := { results := [], args := [] }

/-- 'laws.FnExactFourthBodies': WHATEVER THE INPUT: true; the input reads as it did. -/
def fnExactFourthBodiesSpec : ChangeSpec := { name := "fnExactFourthBodies", fn := fun _ => fun
  | [d1, d2, d3] => { results := [.lit (.bool true)], args := [d1, d2, d3] }
  | _ => none }
def fnExactFourthBodiesRow : OpenClaim := { program := "ytjljdnkedbejaaa", sum := "09515bf78bf48db2228c56eb9ffccdb17047318cf6459d48b28fa43f1acf78c0", func := "loop.example/g01284/laws.FnExactFourthBodies", spec := "fnExactFourthBodies", inPlace := ["math.sqrt", "math.Float64bits", "math.Float64frombits"], unfollowed := true, recurses := true, apart := false }
def FnExactFourthBodiesSaid : Prop := fnExactFourthBodiesRow.holds Try.pinned (OpenSpec.ofChange fnExactFourthBodiesSpec)

/-- ITS FALSE NEIGHBOUR: 'it returns false'. Refute it at one input. -/
def fnExactFourthBodiesWrong : ChangeSpec := { name := "fnExactFourthBodies", fn := fun _ => fun
  | [d1, d2, d3] => { results := [.lit (.bool false)], args := [d1, d2, d3] }
  | _ => none }
def FnExactFourthBodiesWrongFalsely : Prop := fnExactFourthBodiesRow.holds Try.pinned (OpenSpec.ofChange fnExactFourthBodiesWrong)

/-- 'laws.FnExactDropBody': WHATEVER THE INPUT: true; the input reads as it did. -/
def fnExactDropBodySpec : ChangeSpec := { name := "fnExactDropBody", fn := fun _ => fun
  | [d1, d2] => { results := [.lit (.bool true)], args := [d1, d2] }
  | _ => none }
def fnExactDropBodyRow : OpenClaim := { program := "ytjljdnkedbejaaa", sum := "09515bf78bf48db2228c56eb9ffccdb17047318cf6459d48b28fa43f1acf78c0", func := "loop.example/g01284/laws.FnExactDropBody", spec := "fnExactDropBody", inPlace := ["math.Float64bits", "math.Float64frombits"], unfollowed := true, recurses := true, apart := false }
def FnExactDropBodySaid : Prop := fnExactDropBodyRow.holds Try.pinned (OpenSpec.ofChange fnExactDropBodySpec)

/-- ITS FALSE NEIGHBOUR: 'it returns false'. Refute it at one input. -/
def fnExactDropBodyWrong : ChangeSpec := { name := "fnExactDropBody", fn := fun _ => fun
  | [d1, d2] => { results := [.lit (.bool false)], args := [d1, d2] }
  | _ => none }
def FnExactDropBodyWrongFalsely : Prop := fnExactDropBodyRow.holds Try.pinned (OpenSpec.ofChange fnExactDropBodyWrong)

/-- 'laws.FnExactAreBodies': WHATEVER THE INPUT: true; the input reads as it did. -/
def fnExactAreBodiesSpec : ChangeSpec := { name := "fnExactAreBodies", fn := fun _ => fun
  | [d] => { results := [.lit (.bool true)], args := [d] }
  | _ => none }
def fnExactAreBodiesRow : OpenClaim := { program := "ytjljdnkedbejaaa", sum := "09515bf78bf48db2228c56eb9ffccdb17047318cf6459d48b28fa43f1acf78c0", func := "loop.example/g01284/laws.FnExactAreBodies", spec := "fnExactAreBodies", inPlace := ["math.Float64bits", "math.Float64frombits"], unfollowed := true, recurses := true, apart := false }
def FnExactAreBodiesSaid : Prop := fnExactAreBodiesRow.holds Try.pinned (OpenSpec.ofChange fnExactAreBodiesSpec)

/-- ITS FALSE NEIGHBOUR: 'it returns false'. Refute it at one input. -/
def fnExactAreBodiesWrong : ChangeSpec := { name := "fnExactAreBodies", fn := fun _ => fun
  | [d] => { results := [.lit (.bool false)], args := [d] }
  | _ => none }
def FnExactAreBodiesWrongFalsely : Prop := fnExactAreBodiesRow.holds Try.pinned (OpenSpec.ofChange fnExactAreBodiesWrong)

/- THE SECOND FORM. 'bulk': how many values and letters a reading holds, each counted each time it is reached (what is shared counts as often as it is met; a slice's spare places count too). A statement '..UptoSaid' is the law's where the arguments, and the package variables that the reading takes, are together of bulk at most 1048576: NARROWER than '..Said'. Prove '..Said' where nothing that the law and all that it calls make is longer than what came in: it says more and counts as full. Else prove '..UptoSaid'. A law counts once. -/
mutual
def uptoBulk {H : Type} : DataW H → Nat
  | .lit (.string bytes) => bytes.length + 1
  | .lit _ => 1
  | .nil => 1
  | .ptr d => uptoBulk d + 1
  | .slice elems spare => uptoBulkAll elems + uptoBulkAll spare + 1
  | .agg parts => uptoBulkAll parts + 1
  | .iface _ d => uptoBulk d + 1
  | .map entries => uptoBulkEntries entries + 1
  | .held _ => 1
def uptoBulkAll {H : Type} : List (DataW H) → Nat
  | [] => 0
  | d :: r => uptoBulk d + uptoBulkAll r
def uptoBulkEntries {H : Type} : List (Lit × DataW H) → Nat
  | [] => 0
  | x :: r => uptoBulkEntry x + uptoBulkEntries r
def uptoBulkEntry {H : Type} : Lit × DataW H → Nat
  | (.string bytes, d) => bytes.length + uptoBulk d + 1
  | (_, d) => uptoBulk d + 1
 end
def uptoSmall : (H : Type) → List (DataW H) → Bool := fun _ ds => decide (uptoBulkAll ds ≤ 1048576)
def OpenSpec.upto (s : _root_.Go.ChangeSpec) : _root_.Go.OpenSpec := { _root_.Go.OpenSpec.ofChange s with cond := some uptoSmall }

/-- 'laws.FnExactFourthBodies', WHERE WHAT IT READS IS OF BULK AT MOST 1048576: true; the input reads as it did. -/
def fnExactFourthBodiesUptoRow : OpenClaim := { program := "ytjljdnkedbejaaa", sum := "09515bf78bf48db2228c56eb9ffccdb17047318cf6459d48b28fa43f1acf78c0", func := "loop.example/g01284/laws.FnExactFourthBodies", spec := "fnExactFourthBodies", inPlace := ["math.sqrt", "math.Float64bits", "math.Float64frombits"], unfollowed := true, recurses := true, apart := false, narrowed := true }
def FnExactFourthBodiesUptoSaid : Prop := fnExactFourthBodiesUptoRow.holds Try.pinned (OpenSpec.upto fnExactFourthBodiesSpec)

/-- 'laws.FnExactDropBody', WHERE WHAT IT READS IS OF BULK AT MOST 1048576: true; the input reads as it did. -/
def fnExactDropBodyUptoRow : OpenClaim := { program := "ytjljdnkedbejaaa", sum := "09515bf78bf48db2228c56eb9ffccdb17047318cf6459d48b28fa43f1acf78c0", func := "loop.example/g01284/laws.FnExactDropBody", spec := "fnExactDropBody", inPlace := ["math.Float64bits", "math.Float64frombits"], unfollowed := true, recurses := true, apart := false, narrowed := true }
def FnExactDropBodyUptoSaid : Prop := fnExactDropBodyUptoRow.holds Try.pinned (OpenSpec.upto fnExactDropBodySpec)

/-- 'laws.FnExactAreBodies', WHERE WHAT IT READS IS OF BULK AT MOST 1048576: true; the input reads as it did. -/
def fnExactAreBodiesUptoRow : OpenClaim := { program := "ytjljdnkedbejaaa", sum := "09515bf78bf48db2228c56eb9ffccdb17047318cf6459d48b28fa43f1acf78c0", func := "loop.example/g01284/laws.FnExactAreBodies", spec := "fnExactAreBodies", inPlace := ["math.Float64bits", "math.Float64frombits"], unfollowed := true, recurses := true, apart := false, narrowed := true }
def FnExactAreBodiesUptoSaid : Prop := fnExactAreBodiesUptoRow.holds Try.pinned (OpenSpec.upto fnExactAreBodiesSpec)

end Rows
end Go.Proofs.Ytjljdnkedbejaaa
