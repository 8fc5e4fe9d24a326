/-
  NARROWER THAN 'FOR EVERY INPUT', by the rows' own cells (each row's printed sentence says how): MsgSizes: laid · MsgNotes: laid · MsgRefreshes: laid · MsgBack: laid · MsgAgain: laid · MsgTold: laid.
  DERIVED. THE GIVEN ROWS OF THIS SEAT. 6 by the template 'for every input the law returns true; each argument reads behind the call as it read before'; 0 by the template 'total and deterministic' (their statements: YtkaghjohkhlimaaDoorTotals.lean).
  GIVEN WITH THE SEED: the statements are not yours to turn. If you find one false, say at which input.
  Laid BY PROGRAM, IN A SANDBOX (cutbox-rows.mjs): the forced cells as the released guide's own fill.sh prints them over the translation 876cc18826a5d3fc… (all of the seat's roots in one cut). By AI agents, Wed Nov 11 2026. No macro, syntax, notation, axiom, sorry.
-/
import Derived.Test.YtkaghjohkhlimaaDoorChecked
import GoSem.Claim
import GoSem.ClaimJoined
import GoSem.ClaimMapViews
import Derived.JoinedTies
import Derived.KernelRfl
namespace Go.Proofs.YtkaghjohkhlimaaDoor
/- THE CELL 'sum', in the pinned program and in every row, IS THE sha256 OF THE DUMP (.gsa) THAT YtkaghjohkhlimaaDoorProg.lean LOADS. Nothing in Lean hashes anything: it is a label: what it is worth is what the hold of that sum in a sandbox is worth. -/
noncomputable def Tryd.pinned : Pinned := { name := "ytkaghjohkhlimaadoor", sum := "876cc18826a5d3fce7695ba9af5566df05c96f4b70ce0e42fc82be644f9f6736", checked := Tryd.checked }
namespace Rows
def none {H : Type} : Left H := { results := [], args := [] }

/- WHAT THE LISTED PACKAGE-LEVEL VARIABLES READ AS WHEN THE CALL BEGINS. Each datum BY PROGRAM (the guide's laid-datum.mjs) off the statement by which the dump's own 'gosem.cut.vars' lays the variable. In a bare row this is a premise. The card (YtkaghjohkhlimaaDoorCards.lean) ties it to the program's text. -/
def laid_herald_prim_families {H : Type} : DataW H := .agg [.agg [.lit (.string []), .lit (.int .i64 0), .lit (.bool false)], .agg [.lit (.string [118, 52]), .lit (.int .i64 4), .lit (.bool false)], .agg [.lit (.string [118, 54]), .lit (.int .i64 16), .lit (.bool false)], .agg [.lit (.string [108, 52]), .lit (.int .i64 4), .lit (.bool false)], .agg [.lit (.string [118, 112, 110, 52]), .lit (.int .i64 4), .lit (.bool true)], .agg [.lit (.string [118, 112, 110, 54]), .lit (.int .i64 16), .lit (.bool true)]]

/-- 'heraldlaw12.MsgSizes': WHATEVER THE INPUT: true; the input reads as it did. -/
def msgSizesSpec : ChangeSpec := { name := "msgSizes", fn := fun _ => fun
  | [d1, d2] => { results := [.lit (.bool true)], args := [d1, d2] }
  | _ => none }
def msgSizesRow : OpenClaim := { program := "ytkaghjohkhlimaadoor", sum := "876cc18826a5d3fce7695ba9af5566df05c96f4b70ce0e42fc82be644f9f6736", func := "herald/heraldlaw12.MsgSizes", spec := "msgSizes", unfollowed := true, recurses := true, named := ["herald/prim.families"], apart := false, laid := [("herald/prim.families", laid_herald_prim_families)] }
def MsgSizesSaid : Prop := msgSizesRow.holds Tryd.pinned (OpenSpec.ofChange msgSizesSpec)

/-- ITS FALSE NEIGHBOUR: 'it returns false'. Refute it at one input. -/
def msgSizesWrong : ChangeSpec := { name := "msgSizes", fn := fun _ => fun
  | [d1, d2] => { results := [.lit (.bool false)], args := [d1, d2] }
  | _ => none }
def MsgSizesWrongFalsely : Prop := msgSizesRow.holds Tryd.pinned (OpenSpec.ofChange msgSizesWrong)

/-- 'heraldlaw12.MsgNotes': WHATEVER THE INPUT: true; the input reads as it did. -/
def msgNotesSpec : ChangeSpec := { name := "msgNotes", fn := fun _ => fun
  | [d1, d2, d3] => { results := [.lit (.bool true)], args := [d1, d2, d3] }
  | _ => none }
def msgNotesRow : OpenClaim := { program := "ytkaghjohkhlimaadoor", sum := "876cc18826a5d3fce7695ba9af5566df05c96f4b70ce0e42fc82be644f9f6736", func := "herald/heraldlaw12.MsgNotes", spec := "msgNotes", unfollowed := true, recurses := true, named := ["herald/prim.families"], apart := false, laid := [("herald/prim.families", laid_herald_prim_families)] }
def MsgNotesSaid : Prop := msgNotesRow.holds Tryd.pinned (OpenSpec.ofChange msgNotesSpec)

/-- ITS FALSE NEIGHBOUR: 'it returns false'. Refute it at one input. -/
def msgNotesWrong : ChangeSpec := { name := "msgNotes", fn := fun _ => fun
  | [d1, d2, d3] => { results := [.lit (.bool false)], args := [d1, d2, d3] }
  | _ => none }
def MsgNotesWrongFalsely : Prop := msgNotesRow.holds Tryd.pinned (OpenSpec.ofChange msgNotesWrong)

/-- 'heraldlaw12.MsgRefreshes': WHATEVER THE INPUT: true; the input reads as it did. -/
def msgRefreshesSpec : ChangeSpec := { name := "msgRefreshes", fn := fun _ => fun
  | [d1, d2] => { results := [.lit (.bool true)], args := [d1, d2] }
  | _ => none }
def msgRefreshesRow : OpenClaim := { program := "ytkaghjohkhlimaadoor", sum := "876cc18826a5d3fce7695ba9af5566df05c96f4b70ce0e42fc82be644f9f6736", func := "herald/heraldlaw12.MsgRefreshes", spec := "msgRefreshes", unfollowed := true, recurses := true, named := ["herald/prim.families"], apart := false, laid := [("herald/prim.families", laid_herald_prim_families)] }
def MsgRefreshesSaid : Prop := msgRefreshesRow.holds Tryd.pinned (OpenSpec.ofChange msgRefreshesSpec)

/-- ITS FALSE NEIGHBOUR: 'it returns false'. Refute it at one input. -/
def msgRefreshesWrong : ChangeSpec := { name := "msgRefreshes", fn := fun _ => fun
  | [d1, d2] => { results := [.lit (.bool false)], args := [d1, d2] }
  | _ => none }
def MsgRefreshesWrongFalsely : Prop := msgRefreshesRow.holds Tryd.pinned (OpenSpec.ofChange msgRefreshesWrong)

/-- 'heraldlaw12.MsgBack': WHATEVER THE INPUT: true; the input reads as it did. -/
def msgBackSpec : ChangeSpec := { name := "msgBack", fn := fun _ => fun
  | [d1, d2] => { results := [.lit (.bool true)], args := [d1, d2] }
  | _ => none }
def msgBackRow : OpenClaim := { program := "ytkaghjohkhlimaadoor", sum := "876cc18826a5d3fce7695ba9af5566df05c96f4b70ce0e42fc82be644f9f6736", func := "herald/heraldlaw12.MsgBack", spec := "msgBack", unfollowed := true, recurses := true, named := ["herald/prim.families"], apart := false, laid := [("herald/prim.families", laid_herald_prim_families)] }
def MsgBackSaid : Prop := msgBackRow.holds Tryd.pinned (OpenSpec.ofChange msgBackSpec)

/-- ITS FALSE NEIGHBOUR: 'it returns false'. Refute it at one input. -/
def msgBackWrong : ChangeSpec := { name := "msgBack", fn := fun _ => fun
  | [d1, d2] => { results := [.lit (.bool false)], args := [d1, d2] }
  | _ => none }
def MsgBackWrongFalsely : Prop := msgBackRow.holds Tryd.pinned (OpenSpec.ofChange msgBackWrong)

/-- 'heraldlaw12.MsgAgain': WHATEVER THE INPUT: true; the input reads as it did. -/
def msgAgainSpec : ChangeSpec := { name := "msgAgain", fn := fun _ => fun
  | [d] => { results := [.lit (.bool true)], args := [d] }
  | _ => none }
def msgAgainRow : OpenClaim := { program := "ytkaghjohkhlimaadoor", sum := "876cc18826a5d3fce7695ba9af5566df05c96f4b70ce0e42fc82be644f9f6736", func := "herald/heraldlaw12.MsgAgain", spec := "msgAgain", unfollowed := true, recurses := true, named := ["herald/prim.families"], apart := false, laid := [("herald/prim.families", laid_herald_prim_families)] }
def MsgAgainSaid : Prop := msgAgainRow.holds Tryd.pinned (OpenSpec.ofChange msgAgainSpec)

/-- ITS FALSE NEIGHBOUR: 'it returns false'. Refute it at one input. -/
def msgAgainWrong : ChangeSpec := { name := "msgAgain", fn := fun _ => fun
  | [d] => { results := [.lit (.bool false)], args := [d] }
  | _ => none }
def MsgAgainWrongFalsely : Prop := msgAgainRow.holds Tryd.pinned (OpenSpec.ofChange msgAgainWrong)

/-- 'heraldlaw12.MsgTold': WHATEVER THE INPUT: true; the input reads as it did. -/
def msgToldSpec : ChangeSpec := { name := "msgTold", fn := fun _ => fun
  | [d] => { results := [.lit (.bool true)], args := [d] }
  | _ => none }
def msgToldRow : OpenClaim := { program := "ytkaghjohkhlimaadoor", sum := "876cc18826a5d3fce7695ba9af5566df05c96f4b70ce0e42fc82be644f9f6736", func := "herald/heraldlaw12.MsgTold", spec := "msgTold", unfollowed := true, recurses := true, named := ["herald/prim.families"], apart := false, laid := [("herald/prim.families", laid_herald_prim_families)] }
def MsgToldSaid : Prop := msgToldRow.holds Tryd.pinned (OpenSpec.ofChange msgToldSpec)

/-- ITS FALSE NEIGHBOUR: 'it returns false'. Refute it at one input. -/
def msgToldWrong : ChangeSpec := { name := "msgTold", fn := fun _ => fun
  | [d] => { results := [.lit (.bool false)], args := [d] }
  | _ => none }
def MsgToldWrongFalsely : Prop := msgToldRow.holds Tryd.pinned (OpenSpec.ofChange msgToldWrong)

/- THE SECOND FORM. 'bulk': how many values and letters a reading holds, each counted each time it is reached (what is shared counts as often as it is met; a slice's spare places count too). A statement '..UptoSaid' is the law's where the arguments, and the package variables that the reading takes, are together of bulk at most 1048576: NARROWER than '..Said'. Prove '..Said' where nothing that the law and all that it calls make is longer than what came in: it says more and counts as full. Else prove '..UptoSaid'. A law counts once. -/
mutual
def uptoBulk {H : Type} : DataW H → Nat
  | .lit (.string bytes) => bytes.length + 1
  | .lit _ => 1
  | .nil => 1
  | .ptr d => uptoBulk d + 1
  | .slice elems spare => uptoBulkAll elems + uptoBulkAll spare + 1
  | .agg parts => uptoBulkAll parts + 1
  | .iface _ d => uptoBulk d + 1
  | .map entries => uptoBulkEntries entries + 1
  | .held _ => 1
def uptoBulkAll {H : Type} : List (DataW H) → Nat
  | [] => 0
  | d :: r => uptoBulk d + uptoBulkAll r
def uptoBulkEntries {H : Type} : List (Lit × DataW H) → Nat
  | [] => 0
  | x :: r => uptoBulkEntry x + uptoBulkEntries r
def uptoBulkEntry {H : Type} : Lit × DataW H → Nat
  | (.string bytes, d) => bytes.length + uptoBulk d + 1
  | (_, d) => uptoBulk d + 1
 end
def uptoSmall : (H : Type) → List (DataW H) → Bool := fun _ ds => decide (uptoBulkAll ds ≤ 1048576)
def OpenSpec.upto (s : _root_.Go.ChangeSpec) : _root_.Go.OpenSpec := { _root_.Go.OpenSpec.ofChange s with cond := some uptoSmall }

/-- 'heraldlaw12.MsgSizes', WHERE WHAT IT READS IS OF BULK AT MOST 1048576: true; the input reads as it did. -/
def msgSizesUptoRow : OpenClaim := { program := "ytkaghjohkhlimaadoor", sum := "876cc18826a5d3fce7695ba9af5566df05c96f4b70ce0e42fc82be644f9f6736", func := "herald/heraldlaw12.MsgSizes", spec := "msgSizes", unfollowed := true, recurses := true, named := ["herald/prim.families"], apart := false, laid := [("herald/prim.families", laid_herald_prim_families)], narrowed := true }
def MsgSizesUptoSaid : Prop := msgSizesUptoRow.holds Tryd.pinned (OpenSpec.upto msgSizesSpec)

/-- 'heraldlaw12.MsgNotes', WHERE WHAT IT READS IS OF BULK AT MOST 1048576: true; the input reads as it did. -/
def msgNotesUptoRow : OpenClaim := { program := "ytkaghjohkhlimaadoor", sum := "876cc18826a5d3fce7695ba9af5566df05c96f4b70ce0e42fc82be644f9f6736", func := "herald/heraldlaw12.MsgNotes", spec := "msgNotes", unfollowed := true, recurses := true, named := ["herald/prim.families"], apart := false, laid := [("herald/prim.families", laid_herald_prim_families)], narrowed := true }
def MsgNotesUptoSaid : Prop := msgNotesUptoRow.holds Tryd.pinned (OpenSpec.upto msgNotesSpec)

/-- 'heraldlaw12.MsgRefreshes', WHERE WHAT IT READS IS OF BULK AT MOST 1048576: true; the input reads as it did. -/
def msgRefreshesUptoRow : OpenClaim := { program := "ytkaghjohkhlimaadoor", sum := "876cc18826a5d3fce7695ba9af5566df05c96f4b70ce0e42fc82be644f9f6736", func := "herald/heraldlaw12.MsgRefreshes", spec := "msgRefreshes", unfollowed := true, recurses := true, named := ["herald/prim.families"], apart := false, laid := [("herald/prim.families", laid_herald_prim_families)], narrowed := true }
def MsgRefreshesUptoSaid : Prop := msgRefreshesUptoRow.holds Tryd.pinned (OpenSpec.upto msgRefreshesSpec)

/-- 'heraldlaw12.MsgBack', WHERE WHAT IT READS IS OF BULK AT MOST 1048576: true; the input reads as it did. -/
def msgBackUptoRow : OpenClaim := { program := "ytkaghjohkhlimaadoor", sum := "876cc18826a5d3fce7695ba9af5566df05c96f4b70ce0e42fc82be644f9f6736", func := "herald/heraldlaw12.MsgBack", spec := "msgBack", unfollowed := true, recurses := true, named := ["herald/prim.families"], apart := false, laid := [("herald/prim.families", laid_herald_prim_families)], narrowed := true }
def MsgBackUptoSaid : Prop := msgBackUptoRow.holds Tryd.pinned (OpenSpec.upto msgBackSpec)

/-- 'heraldlaw12.MsgAgain', WHERE WHAT IT READS IS OF BULK AT MOST 1048576: true; the input reads as it did. -/
def msgAgainUptoRow : OpenClaim := { program := "ytkaghjohkhlimaadoor", sum := "876cc18826a5d3fce7695ba9af5566df05c96f4b70ce0e42fc82be644f9f6736", func := "herald/heraldlaw12.MsgAgain", spec := "msgAgain", unfollowed := true, recurses := true, named := ["herald/prim.families"], apart := false, laid := [("herald/prim.families", laid_herald_prim_families)], narrowed := true }
def MsgAgainUptoSaid : Prop := msgAgainUptoRow.holds Tryd.pinned (OpenSpec.upto msgAgainSpec)

/-- 'heraldlaw12.MsgTold', WHERE WHAT IT READS IS OF BULK AT MOST 1048576: true; the input reads as it did. -/
def msgToldUptoRow : OpenClaim := { program := "ytkaghjohkhlimaadoor", sum := "876cc18826a5d3fce7695ba9af5566df05c96f4b70ce0e42fc82be644f9f6736", func := "herald/heraldlaw12.MsgTold", spec := "msgTold", unfollowed := true, recurses := true, named := ["herald/prim.families"], apart := false, laid := [("herald/prim.families", laid_herald_prim_families)], narrowed := true }
def MsgToldUptoSaid : Prop := msgToldUptoRow.holds Tryd.pinned (OpenSpec.upto msgToldSpec)

end Rows
end Go.Proofs.YtkaghjohkhlimaaDoor
