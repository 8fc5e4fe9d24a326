/-
  NARROWER THAN 'FOR EVERY INPUT', by the rows' own cells (each row's printed sentence says how): AttrAgain: laid · AttrTurned: laid · AttrJudged: laid · AttrKnown: laid.
  DERIVED. THE GIVEN ROWS OF THIS SEAT. 4 by the template 'for every input the law returns true; each argument reads behind the call as it read before'; 0 by the template 'total and deterministic' (their statements: YtpahnebhcfpplabGreatDoorTotals.lean).
  GIVEN WITH THE SEED: the statements are not yours to turn. If you find one false, say at which input.
  Laid BY PROGRAM, IN A SANDBOX (cutbox-rows.mjs): the forced cells as the released guide's own fill.sh prints them over the translation d6897936b8d982c5… (all of the seat's roots in one cut). By AI agents, Wed Nov 11 2026. No macro, syntax, notation, axiom, sorry.
-/
import Derived.Test.YtpahnebhcfpplabGreatDoorChecked
import GoSem.Claim
import GoSem.ClaimJoined
import GoSem.ClaimMapViews
import Derived.JoinedTies
import Derived.KernelRfl
namespace Go.Proofs.YtpahnebhcfpplabGreatDoor
/- THE CELL 'sum', in the pinned program and in every row, IS THE sha256 OF THE DUMP (.gsa) THAT YtpahnebhcfpplabGreatDoorProg.lean LOADS. Nothing in Lean hashes anything: it is a label: what it is worth is what the hold of that sum in a sandbox is worth. -/
noncomputable def Tryz.pinned : Pinned := { name := "ytpahnebhcfpplabgreatdoor", sum := "d6897936b8d982c580ae1889cd0a354dc0f3d0b169eb6caf18907f971f7b57df", checked := Tryz.checked }
namespace Rows
def none {H : Type} : Left H := { results := [], args := [] }

/- WHAT THE LISTED PACKAGE-LEVEL VARIABLES READ AS WHEN THE CALL BEGINS. Each datum BY PROGRAM (the guide's laid-datum.mjs) off the statement by which the dump's own 'gosem.cut.vars' lays the variable. In a bare row this is a premise. The card (YtpahnebhcfpplabGreatDoorCards.lean) ties it to the program's text. -/
def laid_herald_attr_known {H : Type} : DataW H := .agg [.lit (.int .u8 1), .lit (.int .u8 2), .lit (.int .u8 3), .lit (.int .u8 4), .lit (.int .u8 5), .lit (.int .u8 6), .lit (.int .u8 7), .lit (.int .u8 8), .lit (.int .u8 9), .lit (.int .u8 10), .lit (.int .u8 16), .lit (.int .u8 32)]

/-- 'heraldlaw06.AttrAgain': WHATEVER THE INPUT: true; the input reads as it did. -/
def attrAgainSpec : ChangeSpec := { name := "attrAgain", fn := fun _ => fun
  | [d] => { results := [.lit (.bool true)], args := [d] }
  | _ => none }
def attrAgainRow : OpenClaim := { program := "ytpahnebhcfpplabgreatdoor", sum := "d6897936b8d982c580ae1889cd0a354dc0f3d0b169eb6caf18907f971f7b57df", func := "herald/heraldlaw06.AttrAgain", spec := "attrAgain", inPlace := ["internal/abi.NoEscape"], unfollowed := true, recurses := true, named := ["herald/attr.known"], plainKeys := false, apart := false, laid := [("herald/attr.known", laid_herald_attr_known)] }
def AttrAgainSaid : Prop := attrAgainRow.holds Tryz.pinned (OpenSpec.ofChange attrAgainSpec)

/-- ITS FALSE NEIGHBOUR: 'it returns false'. Refute it at one input. -/
def attrAgainWrong : ChangeSpec := { name := "attrAgain", fn := fun _ => fun
  | [d] => { results := [.lit (.bool false)], args := [d] }
  | _ => none }
def AttrAgainWrongFalsely : Prop := attrAgainRow.holds Tryz.pinned (OpenSpec.ofChange attrAgainWrong)

/-- 'heraldlaw06.AttrTurned': WHATEVER THE INPUT: true; the input reads as it did. -/
def attrTurnedSpec : ChangeSpec := { name := "attrTurned", fn := fun _ => fun
  | [d1, d2, d3] => { results := [.lit (.bool true)], args := [d1, d2, d3] }
  | _ => none }
def attrTurnedRow : OpenClaim := { program := "ytpahnebhcfpplabgreatdoor", sum := "d6897936b8d982c580ae1889cd0a354dc0f3d0b169eb6caf18907f971f7b57df", func := "herald/heraldlaw06.AttrTurned", spec := "attrTurned", inPlace := ["internal/abi.NoEscape"], unfollowed := true, recurses := true, named := ["herald/attr.known"], plainKeys := false, apart := false, laid := [("herald/attr.known", laid_herald_attr_known)] }
def AttrTurnedSaid : Prop := attrTurnedRow.holds Tryz.pinned (OpenSpec.ofChange attrTurnedSpec)

/-- ITS FALSE NEIGHBOUR: 'it returns false'. Refute it at one input. -/
def attrTurnedWrong : ChangeSpec := { name := "attrTurned", fn := fun _ => fun
  | [d1, d2, d3] => { results := [.lit (.bool false)], args := [d1, d2, d3] }
  | _ => none }
def AttrTurnedWrongFalsely : Prop := attrTurnedRow.holds Tryz.pinned (OpenSpec.ofChange attrTurnedWrong)

/-- 'heraldlaw06.AttrJudged': WHATEVER THE INPUT: true; the input reads as it did. -/
def attrJudgedSpec : ChangeSpec := { name := "attrJudged", fn := fun _ => fun
  | [d1, d2, d3] => { results := [.lit (.bool true)], args := [d1, d2, d3] }
  | _ => none }
def attrJudgedRow : OpenClaim := { program := "ytpahnebhcfpplabgreatdoor", sum := "d6897936b8d982c580ae1889cd0a354dc0f3d0b169eb6caf18907f971f7b57df", func := "herald/heraldlaw06.AttrJudged", spec := "attrJudged", inPlace := ["internal/abi.NoEscape"], unfollowed := true, recurses := true, named := ["herald/attr.known"], plainKeys := false, apart := false, laid := [("herald/attr.known", laid_herald_attr_known)] }
def AttrJudgedSaid : Prop := attrJudgedRow.holds Tryz.pinned (OpenSpec.ofChange attrJudgedSpec)

/-- ITS FALSE NEIGHBOUR: 'it returns false'. Refute it at one input. -/
def attrJudgedWrong : ChangeSpec := { name := "attrJudged", fn := fun _ => fun
  | [d1, d2, d3] => { results := [.lit (.bool false)], args := [d1, d2, d3] }
  | _ => none }
def AttrJudgedWrongFalsely : Prop := attrJudgedRow.holds Tryz.pinned (OpenSpec.ofChange attrJudgedWrong)

/-- 'heraldlaw06.AttrKnown': WHATEVER THE INPUT: true; the input reads as it did. -/
def attrKnownSpec : ChangeSpec := { name := "attrKnown", fn := fun _ => fun
  | [] => { results := [.lit (.bool true)], args := [] }
  | _ => none }
def attrKnownRow : OpenClaim := { program := "ytpahnebhcfpplabgreatdoor", sum := "d6897936b8d982c580ae1889cd0a354dc0f3d0b169eb6caf18907f971f7b57df", func := "herald/heraldlaw06.AttrKnown", spec := "attrKnown", inPlace := ["internal/abi.NoEscape"], unfollowed := true, recurses := true, named := ["herald/attr.known"], plainKeys := false, apart := false, laid := [("herald/attr.known", laid_herald_attr_known)] }
def AttrKnownSaid : Prop := attrKnownRow.holds Tryz.pinned (OpenSpec.ofChange attrKnownSpec)

/-- ITS FALSE NEIGHBOUR: 'it returns false'. Refute it at one input. -/
def attrKnownWrong : ChangeSpec := { name := "attrKnown", fn := fun _ => fun
  | [] => { results := [.lit (.bool false)], args := [] }
  | _ => none }
def AttrKnownWrongFalsely : Prop := attrKnownRow.holds Tryz.pinned (OpenSpec.ofChange attrKnownWrong)

/- THE SECOND FORM. 'bulk': how many values and letters a reading holds, each counted each time it is reached (what is shared counts as often as it is met; a slice's spare places count too). A statement '..UptoSaid' is the law's where the arguments, and the package variables that the reading takes, are together of bulk at most 1048576: NARROWER than '..Said'. Prove '..Said' where nothing that the law and all that it calls make is longer than what came in: it says more and counts as full. Else prove '..UptoSaid'. A law counts once. -/
mutual
def uptoBulk {H : Type} : DataW H → Nat
  | .lit (.string bytes) => bytes.length + 1
  | .lit _ => 1
  | .nil => 1
  | .ptr d => uptoBulk d + 1
  | .slice elems spare => uptoBulkAll elems + uptoBulkAll spare + 1
  | .agg parts => uptoBulkAll parts + 1
  | .iface _ d => uptoBulk d + 1
  | .map entries => uptoBulkEntries entries + 1
  | .held _ => 1
def uptoBulkAll {H : Type} : List (DataW H) → Nat
  | [] => 0
  | d :: r => uptoBulk d + uptoBulkAll r
def uptoBulkEntries {H : Type} : List (Lit × DataW H) → Nat
  | [] => 0
  | x :: r => uptoBulkEntry x + uptoBulkEntries r
def uptoBulkEntry {H : Type} : Lit × DataW H → Nat
  | (.string bytes, d) => bytes.length + uptoBulk d + 1
  | (_, d) => uptoBulk d + 1
 end
def uptoSmall : (H : Type) → List (DataW H) → Bool := fun _ ds => decide (uptoBulkAll ds ≤ 1048576)
def OpenSpec.upto (s : _root_.Go.ChangeSpec) : _root_.Go.OpenSpec := { _root_.Go.OpenSpec.ofChange s with cond := some uptoSmall }

/-- 'heraldlaw06.AttrAgain', WHERE WHAT IT READS IS OF BULK AT MOST 1048576: true; the input reads as it did. -/
def attrAgainUptoRow : OpenClaim := { program := "ytpahnebhcfpplabgreatdoor", sum := "d6897936b8d982c580ae1889cd0a354dc0f3d0b169eb6caf18907f971f7b57df", func := "herald/heraldlaw06.AttrAgain", spec := "attrAgain", inPlace := ["internal/abi.NoEscape"], unfollowed := true, recurses := true, named := ["herald/attr.known"], plainKeys := false, apart := false, laid := [("herald/attr.known", laid_herald_attr_known)], narrowed := true }
def AttrAgainUptoSaid : Prop := attrAgainUptoRow.holds Tryz.pinned (OpenSpec.upto attrAgainSpec)

/-- 'heraldlaw06.AttrTurned', WHERE WHAT IT READS IS OF BULK AT MOST 1048576: true; the input reads as it did. -/
def attrTurnedUptoRow : OpenClaim := { program := "ytpahnebhcfpplabgreatdoor", sum := "d6897936b8d982c580ae1889cd0a354dc0f3d0b169eb6caf18907f971f7b57df", func := "herald/heraldlaw06.AttrTurned", spec := "attrTurned", inPlace := ["internal/abi.NoEscape"], unfollowed := true, recurses := true, named := ["herald/attr.known"], plainKeys := false, apart := false, laid := [("herald/attr.known", laid_herald_attr_known)], narrowed := true }
def AttrTurnedUptoSaid : Prop := attrTurnedUptoRow.holds Tryz.pinned (OpenSpec.upto attrTurnedSpec)

/-- 'heraldlaw06.AttrJudged', WHERE WHAT IT READS IS OF BULK AT MOST 1048576: true; the input reads as it did. -/
def attrJudgedUptoRow : OpenClaim := { program := "ytpahnebhcfpplabgreatdoor", sum := "d6897936b8d982c580ae1889cd0a354dc0f3d0b169eb6caf18907f971f7b57df", func := "herald/heraldlaw06.AttrJudged", spec := "attrJudged", inPlace := ["internal/abi.NoEscape"], unfollowed := true, recurses := true, named := ["herald/attr.known"], plainKeys := false, apart := false, laid := [("herald/attr.known", laid_herald_attr_known)], narrowed := true }
def AttrJudgedUptoSaid : Prop := attrJudgedUptoRow.holds Tryz.pinned (OpenSpec.upto attrJudgedSpec)

/-- 'heraldlaw06.AttrKnown', WHERE WHAT IT READS IS OF BULK AT MOST 1048576: true; the input reads as it did. -/
def attrKnownUptoRow : OpenClaim := { program := "ytpahnebhcfpplabgreatdoor", sum := "d6897936b8d982c580ae1889cd0a354dc0f3d0b169eb6caf18907f971f7b57df", func := "herald/heraldlaw06.AttrKnown", spec := "attrKnown", inPlace := ["internal/abi.NoEscape"], unfollowed := true, recurses := true, named := ["herald/attr.known"], plainKeys := false, apart := false, laid := [("herald/attr.known", laid_herald_attr_known)], narrowed := true }
def AttrKnownUptoSaid : Prop := attrKnownUptoRow.holds Tryz.pinned (OpenSpec.upto attrKnownSpec)

end Rows
end Go.Proofs.YtpahnebhcfpplabGreatDoor
