/-
  NARROWER THAN 'FOR EVERY INPUT', by the rows' own cells (each row's printed sentence says how): AttrWrites: laid · AttrLays: laid · AttrSplits: laid · AttrReads: laid · AttrSame: laid · AttrBack: laid.
  DERIVED. THE GIVEN ROWS OF THIS SEAT. 6 by the template 'for every input the law returns true; each argument reads behind the call as it read before'; 0 by the template 'total and deterministic' (their statements: YtpahnebhcfpplaaGreatDoorTotals.lean).
  GIVEN WITH THE SEED: the statements are not yours to turn. If you find one false, say at which input.
  Laid BY PROGRAM, IN A SANDBOX (cutbox-rows.mjs): the forced cells as the released guide's own fill.sh prints them over the translation 0748828ca1560df1… (all of the seat's roots in one cut). By AI agents, Wed Nov 11 2026. No macro, syntax, notation, axiom, sorry.
-/
import Derived.Test.YtpahnebhcfpplaaGreatDoorChecked
import GoSem.Claim
import GoSem.ClaimJoined
import GoSem.ClaimMapViews
import Derived.JoinedTies
import Derived.KernelRfl
namespace Go.Proofs.YtpahnebhcfpplaaGreatDoor
/- THE CELL 'sum', in the pinned program and in every row, IS THE sha256 OF THE DUMP (.gsa) THAT YtpahnebhcfpplaaGreatDoorProg.lean LOADS. Nothing in Lean hashes anything: it is a label: what it is worth is what the hold of that sum in a sandbox is worth. -/
noncomputable def Tryz.pinned : Pinned := { name := "ytpahnebhcfpplaagreatdoor", sum := "0748828ca1560df11fd9ccaefd391f677f6d7746db100bc7a79ce44ef1b1ffa6", checked := Tryz.checked }
namespace Rows
def none {H : Type} : Left H := { results := [], args := [] }

/- WHAT THE LISTED PACKAGE-LEVEL VARIABLES READ AS WHEN THE CALL BEGINS. Each datum BY PROGRAM (the guide's laid-datum.mjs) off the statement by which the dump's own 'gosem.cut.vars' lays the variable. In a bare row this is a premise. The card (YtpahnebhcfpplaaGreatDoorCards.lean) ties it to the program's text. -/
def laid_herald_attr_known {H : Type} : DataW H := .agg [.lit (.int .u8 1), .lit (.int .u8 2), .lit (.int .u8 3), .lit (.int .u8 4), .lit (.int .u8 5), .lit (.int .u8 6), .lit (.int .u8 7), .lit (.int .u8 8), .lit (.int .u8 9), .lit (.int .u8 10), .lit (.int .u8 16), .lit (.int .u8 32)]

/-- 'heraldlaw06.AttrWrites': WHATEVER THE INPUT: true; the input reads as it did. -/
def attrWritesSpec : ChangeSpec := { name := "attrWrites", fn := fun _ => fun
  | [d1, d2] => { results := [.lit (.bool true)], args := [d1, d2] }
  | _ => none }
def attrWritesRow : OpenClaim := { program := "ytpahnebhcfpplaagreatdoor", sum := "0748828ca1560df11fd9ccaefd391f677f6d7746db100bc7a79ce44ef1b1ffa6", func := "herald/heraldlaw06.AttrWrites", spec := "attrWrites", inPlace := ["internal/abi.NoEscape"], unfollowed := true, recurses := true, named := ["herald/attr.known"], plainKeys := false, apart := false, laid := [("herald/attr.known", laid_herald_attr_known)] }
def AttrWritesSaid : Prop := attrWritesRow.holds Tryz.pinned (OpenSpec.ofChange attrWritesSpec)

/-- ITS FALSE NEIGHBOUR: 'it returns false'. Refute it at one input. -/
def attrWritesWrong : ChangeSpec := { name := "attrWrites", fn := fun _ => fun
  | [d1, d2] => { results := [.lit (.bool false)], args := [d1, d2] }
  | _ => none }
def AttrWritesWrongFalsely : Prop := attrWritesRow.holds Tryz.pinned (OpenSpec.ofChange attrWritesWrong)

/-- 'heraldlaw06.AttrLays': WHATEVER THE INPUT: true; the input reads as it did. -/
def attrLaysSpec : ChangeSpec := { name := "attrLays", fn := fun _ => fun
  | [d] => { results := [.lit (.bool true)], args := [d] }
  | _ => none }
def attrLaysRow : OpenClaim := { program := "ytpahnebhcfpplaagreatdoor", sum := "0748828ca1560df11fd9ccaefd391f677f6d7746db100bc7a79ce44ef1b1ffa6", func := "herald/heraldlaw06.AttrLays", spec := "attrLays", inPlace := ["internal/abi.NoEscape"], unfollowed := true, recurses := true, named := ["herald/attr.known"], plainKeys := false, apart := false, laid := [("herald/attr.known", laid_herald_attr_known)] }
def AttrLaysSaid : Prop := attrLaysRow.holds Tryz.pinned (OpenSpec.ofChange attrLaysSpec)

/-- ITS FALSE NEIGHBOUR: 'it returns false'. Refute it at one input. -/
def attrLaysWrong : ChangeSpec := { name := "attrLays", fn := fun _ => fun
  | [d] => { results := [.lit (.bool false)], args := [d] }
  | _ => none }
def AttrLaysWrongFalsely : Prop := attrLaysRow.holds Tryz.pinned (OpenSpec.ofChange attrLaysWrong)

/-- 'heraldlaw06.AttrSplits': WHATEVER THE INPUT: true; the input reads as it did. -/
def attrSplitsSpec : ChangeSpec := { name := "attrSplits", fn := fun _ => fun
  | [d] => { results := [.lit (.bool true)], args := [d] }
  | _ => none }
def attrSplitsRow : OpenClaim := { program := "ytpahnebhcfpplaagreatdoor", sum := "0748828ca1560df11fd9ccaefd391f677f6d7746db100bc7a79ce44ef1b1ffa6", func := "herald/heraldlaw06.AttrSplits", spec := "attrSplits", inPlace := ["internal/abi.NoEscape"], unfollowed := true, recurses := true, named := ["herald/attr.known"], plainKeys := false, apart := false, laid := [("herald/attr.known", laid_herald_attr_known)] }
def AttrSplitsSaid : Prop := attrSplitsRow.holds Tryz.pinned (OpenSpec.ofChange attrSplitsSpec)

/-- ITS FALSE NEIGHBOUR: 'it returns false'. Refute it at one input. -/
def attrSplitsWrong : ChangeSpec := { name := "attrSplits", fn := fun _ => fun
  | [d] => { results := [.lit (.bool false)], args := [d] }
  | _ => none }
def AttrSplitsWrongFalsely : Prop := attrSplitsRow.holds Tryz.pinned (OpenSpec.ofChange attrSplitsWrong)

/-- 'heraldlaw06.AttrReads': WHATEVER THE INPUT: true; the input reads as it did. -/
def attrReadsSpec : ChangeSpec := { name := "attrReads", fn := fun _ => fun
  | [d1, d2, d3] => { results := [.lit (.bool true)], args := [d1, d2, d3] }
  | _ => none }
def attrReadsRow : OpenClaim := { program := "ytpahnebhcfpplaagreatdoor", sum := "0748828ca1560df11fd9ccaefd391f677f6d7746db100bc7a79ce44ef1b1ffa6", func := "herald/heraldlaw06.AttrReads", spec := "attrReads", inPlace := ["internal/abi.NoEscape"], unfollowed := true, recurses := true, named := ["herald/attr.known"], plainKeys := false, apart := false, laid := [("herald/attr.known", laid_herald_attr_known)] }
def AttrReadsSaid : Prop := attrReadsRow.holds Tryz.pinned (OpenSpec.ofChange attrReadsSpec)

/-- ITS FALSE NEIGHBOUR: 'it returns false'. Refute it at one input. -/
def attrReadsWrong : ChangeSpec := { name := "attrReads", fn := fun _ => fun
  | [d1, d2, d3] => { results := [.lit (.bool false)], args := [d1, d2, d3] }
  | _ => none }
def AttrReadsWrongFalsely : Prop := attrReadsRow.holds Tryz.pinned (OpenSpec.ofChange attrReadsWrong)

/-- 'heraldlaw06.AttrSame': WHATEVER THE INPUT: true; the input reads as it did. -/
def attrSameSpec : ChangeSpec := { name := "attrSame", fn := fun _ => fun
  | [d1, d2] => { results := [.lit (.bool true)], args := [d1, d2] }
  | _ => none }
def attrSameRow : OpenClaim := { program := "ytpahnebhcfpplaagreatdoor", sum := "0748828ca1560df11fd9ccaefd391f677f6d7746db100bc7a79ce44ef1b1ffa6", func := "herald/heraldlaw06.AttrSame", spec := "attrSame", inPlace := ["internal/abi.NoEscape"], unfollowed := true, recurses := true, named := ["herald/attr.known"], plainKeys := false, apart := false, laid := [("herald/attr.known", laid_herald_attr_known)] }
def AttrSameSaid : Prop := attrSameRow.holds Tryz.pinned (OpenSpec.ofChange attrSameSpec)

/-- ITS FALSE NEIGHBOUR: 'it returns false'. Refute it at one input. -/
def attrSameWrong : ChangeSpec := { name := "attrSame", fn := fun _ => fun
  | [d1, d2] => { results := [.lit (.bool false)], args := [d1, d2] }
  | _ => none }
def AttrSameWrongFalsely : Prop := attrSameRow.holds Tryz.pinned (OpenSpec.ofChange attrSameWrong)

/-- 'heraldlaw06.AttrBack': WHATEVER THE INPUT: true; the input reads as it did. -/
def attrBackSpec : ChangeSpec := { name := "attrBack", fn := fun _ => fun
  | [d] => { results := [.lit (.bool true)], args := [d] }
  | _ => none }
def attrBackRow : OpenClaim := { program := "ytpahnebhcfpplaagreatdoor", sum := "0748828ca1560df11fd9ccaefd391f677f6d7746db100bc7a79ce44ef1b1ffa6", func := "herald/heraldlaw06.AttrBack", spec := "attrBack", inPlace := ["internal/abi.NoEscape"], unfollowed := true, recurses := true, named := ["herald/attr.known"], plainKeys := false, apart := false, laid := [("herald/attr.known", laid_herald_attr_known)] }
def AttrBackSaid : Prop := attrBackRow.holds Tryz.pinned (OpenSpec.ofChange attrBackSpec)

/-- ITS FALSE NEIGHBOUR: 'it returns false'. Refute it at one input. -/
def attrBackWrong : ChangeSpec := { name := "attrBack", fn := fun _ => fun
  | [d] => { results := [.lit (.bool false)], args := [d] }
  | _ => none }
def AttrBackWrongFalsely : Prop := attrBackRow.holds Tryz.pinned (OpenSpec.ofChange attrBackWrong)

/- THE SECOND FORM. 'bulk': how many values and letters a reading holds, each counted each time it is reached (what is shared counts as often as it is met; a slice's spare places count too). A statement '..UptoSaid' is the law's where the arguments, and the package variables that the reading takes, are together of bulk at most 1048576: NARROWER than '..Said'. Prove '..Said' where nothing that the law and all that it calls make is longer than what came in: it says more and counts as full. Else prove '..UptoSaid'. A law counts once. -/
mutual
def uptoBulk {H : Type} : DataW H → Nat
  | .lit (.string bytes) => bytes.length + 1
  | .lit _ => 1
  | .nil => 1
  | .ptr d => uptoBulk d + 1
  | .slice elems spare => uptoBulkAll elems + uptoBulkAll spare + 1
  | .agg parts => uptoBulkAll parts + 1
  | .iface _ d => uptoBulk d + 1
  | .map entries => uptoBulkEntries entries + 1
  | .held _ => 1
def uptoBulkAll {H : Type} : List (DataW H) → Nat
  | [] => 0
  | d :: r => uptoBulk d + uptoBulkAll r
def uptoBulkEntries {H : Type} : List (Lit × DataW H) → Nat
  | [] => 0
  | x :: r => uptoBulkEntry x + uptoBulkEntries r
def uptoBulkEntry {H : Type} : Lit × DataW H → Nat
  | (.string bytes, d) => bytes.length + uptoBulk d + 1
  | (_, d) => uptoBulk d + 1
 end
def uptoSmall : (H : Type) → List (DataW H) → Bool := fun _ ds => decide (uptoBulkAll ds ≤ 1048576)
def OpenSpec.upto (s : _root_.Go.ChangeSpec) : _root_.Go.OpenSpec := { _root_.Go.OpenSpec.ofChange s with cond := some uptoSmall }

/-- 'heraldlaw06.AttrWrites', WHERE WHAT IT READS IS OF BULK AT MOST 1048576: true; the input reads as it did. -/
def attrWritesUptoRow : OpenClaim := { program := "ytpahnebhcfpplaagreatdoor", sum := "0748828ca1560df11fd9ccaefd391f677f6d7746db100bc7a79ce44ef1b1ffa6", func := "herald/heraldlaw06.AttrWrites", spec := "attrWrites", inPlace := ["internal/abi.NoEscape"], unfollowed := true, recurses := true, named := ["herald/attr.known"], plainKeys := false, apart := false, laid := [("herald/attr.known", laid_herald_attr_known)], narrowed := true }
def AttrWritesUptoSaid : Prop := attrWritesUptoRow.holds Tryz.pinned (OpenSpec.upto attrWritesSpec)

/-- 'heraldlaw06.AttrLays', WHERE WHAT IT READS IS OF BULK AT MOST 1048576: true; the input reads as it did. -/
def attrLaysUptoRow : OpenClaim := { program := "ytpahnebhcfpplaagreatdoor", sum := "0748828ca1560df11fd9ccaefd391f677f6d7746db100bc7a79ce44ef1b1ffa6", func := "herald/heraldlaw06.AttrLays", spec := "attrLays", inPlace := ["internal/abi.NoEscape"], unfollowed := true, recurses := true, named := ["herald/attr.known"], plainKeys := false, apart := false, laid := [("herald/attr.known", laid_herald_attr_known)], narrowed := true }
def AttrLaysUptoSaid : Prop := attrLaysUptoRow.holds Tryz.pinned (OpenSpec.upto attrLaysSpec)

/-- 'heraldlaw06.AttrSplits', WHERE WHAT IT READS IS OF BULK AT MOST 1048576: true; the input reads as it did. -/
def attrSplitsUptoRow : OpenClaim := { program := "ytpahnebhcfpplaagreatdoor", sum := "0748828ca1560df11fd9ccaefd391f677f6d7746db100bc7a79ce44ef1b1ffa6", func := "herald/heraldlaw06.AttrSplits", spec := "attrSplits", inPlace := ["internal/abi.NoEscape"], unfollowed := true, recurses := true, named := ["herald/attr.known"], plainKeys := false, apart := false, laid := [("herald/attr.known", laid_herald_attr_known)], narrowed := true }
def AttrSplitsUptoSaid : Prop := attrSplitsUptoRow.holds Tryz.pinned (OpenSpec.upto attrSplitsSpec)

/-- 'heraldlaw06.AttrReads', WHERE WHAT IT READS IS OF BULK AT MOST 1048576: true; the input reads as it did. -/
def attrReadsUptoRow : OpenClaim := { program := "ytpahnebhcfpplaagreatdoor", sum := "0748828ca1560df11fd9ccaefd391f677f6d7746db100bc7a79ce44ef1b1ffa6", func := "herald/heraldlaw06.AttrReads", spec := "attrReads", inPlace := ["internal/abi.NoEscape"], unfollowed := true, recurses := true, named := ["herald/attr.known"], plainKeys := false, apart := false, laid := [("herald/attr.known", laid_herald_attr_known)], narrowed := true }
def AttrReadsUptoSaid : Prop := attrReadsUptoRow.holds Tryz.pinned (OpenSpec.upto attrReadsSpec)

/-- 'heraldlaw06.AttrSame', WHERE WHAT IT READS IS OF BULK AT MOST 1048576: true; the input reads as it did. -/
def attrSameUptoRow : OpenClaim := { program := "ytpahnebhcfpplaagreatdoor", sum := "0748828ca1560df11fd9ccaefd391f677f6d7746db100bc7a79ce44ef1b1ffa6", func := "herald/heraldlaw06.AttrSame", spec := "attrSame", inPlace := ["internal/abi.NoEscape"], unfollowed := true, recurses := true, named := ["herald/attr.known"], plainKeys := false, apart := false, laid := [("herald/attr.known", laid_herald_attr_known)], narrowed := true }
def AttrSameUptoSaid : Prop := attrSameUptoRow.holds Tryz.pinned (OpenSpec.upto attrSameSpec)

/-- 'heraldlaw06.AttrBack', WHERE WHAT IT READS IS OF BULK AT MOST 1048576: true; the input reads as it did. -/
def attrBackUptoRow : OpenClaim := { program := "ytpahnebhcfpplaagreatdoor", sum := "0748828ca1560df11fd9ccaefd391f677f6d7746db100bc7a79ce44ef1b1ffa6", func := "herald/heraldlaw06.AttrBack", spec := "attrBack", inPlace := ["internal/abi.NoEscape"], unfollowed := true, recurses := true, named := ["herald/attr.known"], plainKeys := false, apart := false, laid := [("herald/attr.known", laid_herald_attr_known)], narrowed := true }
def AttrBackUptoSaid : Prop := attrBackUptoRow.holds Tryz.pinned (OpenSpec.upto attrBackSpec)

end Rows
end Go.Proofs.YtpahnebhcfpplaaGreatDoor
