/-
  NARROWER THAN 'FOR EVERY INPUT', by the rows' own cells (each row's printed sentence says how): OpenLays: laid · OpenJudges: laid · OpenOurs: laid · OpenBack: laid · OpenMay: laid.
  DERIVED. THE GIVEN ROWS OF THIS SEAT. 5 by the template 'for every input the law returns true; each argument reads behind the call as it read before'; 0 by the template 'total and deterministic' (their statements: YtlhnfejgkhilkaaDoorTotals.lean).
  GIVEN WITH THE SEED: the statements are not yours to turn. If you find one false, say at which input.
  Laid BY PROGRAM, IN A SANDBOX (cutbox-rows.mjs): the forced cells as the released guide's own fill.sh prints them over the translation cc2f183d4067ed64… (all of the seat's roots in one cut). By AI agents, Wed Nov 11 2026. No macro, syntax, notation, axiom, sorry.
-/
import Derived.Test.YtlhnfejgkhilkaaDoorChecked
import GoSem.Claim
import GoSem.ClaimJoined
import GoSem.ClaimMapViews
import Derived.JoinedTies
import Derived.KernelRfl
namespace Go.Proofs.YtlhnfejgkhilkaaDoor
/- THE CELL 'sum', in the pinned program and in every row, IS THE sha256 OF THE DUMP (.gsa) THAT YtlhnfejgkhilkaaDoorProg.lean LOADS. Nothing in Lean hashes anything: it is a label: what it is worth is what the hold of that sum in a sandbox is worth. -/
noncomputable def Tryd.pinned : Pinned := { name := "ytlhnfejgkhilkaadoor", sum := "cc2f183d4067ed64364bad055a8baba6c2e9b1e9b71cd474a5682b30123b024a", checked := Tryd.checked }
namespace Rows
def none {H : Type} : Left H := { results := [], args := [] }

/- WHAT THE LISTED PACKAGE-LEVEL VARIABLES READ AS WHEN THE CALL BEGINS. Each datum BY PROGRAM (the guide's laid-datum.mjs) off the statement by which the dump's own 'gosem.cut.vars' lays the variable. In a bare row this is a premise. The card (YtlhnfejgkhilkaaDoorCards.lean) ties it to the program's text. -/
def laid_herald_prim_families {H : Type} : DataW H := .agg [.agg [.lit (.string []), .lit (.int .i64 0), .lit (.bool false)], .agg [.lit (.string [118, 52]), .lit (.int .i64 4), .lit (.bool false)], .agg [.lit (.string [118, 54]), .lit (.int .i64 16), .lit (.bool false)], .agg [.lit (.string [108, 52]), .lit (.int .i64 4), .lit (.bool false)], .agg [.lit (.string [118, 112, 110, 52]), .lit (.int .i64 4), .lit (.bool true)], .agg [.lit (.string [118, 112, 110, 54]), .lit (.int .i64 16), .lit (.bool true)]]

/-- 'heraldlaw10.OpenLays': WHATEVER THE INPUT: true; the input reads as it did. -/
def openLaysSpec : ChangeSpec := { name := "openLays", fn := fun _ => fun
  | [d] => { results := [.lit (.bool true)], args := [d] }
  | _ => none }
def openLaysRow : OpenClaim := { program := "ytlhnfejgkhilkaadoor", sum := "cc2f183d4067ed64364bad055a8baba6c2e9b1e9b71cd474a5682b30123b024a", func := "herald/heraldlaw10.OpenLays", spec := "openLays", inPlace := ["slices.overlaps[int]", "slices.overlaps[herald/api.Restart]", "slices.overlaps[herald/api.Add]"], unfollowed := true, recurses := true, named := ["herald/prim.families"], apart := false, laid := [("herald/prim.families", laid_herald_prim_families)] }
def OpenLaysSaid : Prop := openLaysRow.holds Tryd.pinned (OpenSpec.ofChange openLaysSpec)

/-- ITS FALSE NEIGHBOUR: 'it returns false'. Refute it at one input. -/
def openLaysWrong : ChangeSpec := { name := "openLays", fn := fun _ => fun
  | [d] => { results := [.lit (.bool false)], args := [d] }
  | _ => none }
def OpenLaysWrongFalsely : Prop := openLaysRow.holds Tryd.pinned (OpenSpec.ofChange openLaysWrong)

/-- 'heraldlaw10.OpenJudges': WHATEVER THE INPUT: true; the input reads as it did. -/
def openJudgesSpec : ChangeSpec := { name := "openJudges", fn := fun _ => fun
  | [d] => { results := [.lit (.bool true)], args := [d] }
  | _ => none }
def openJudgesRow : OpenClaim := { program := "ytlhnfejgkhilkaadoor", sum := "cc2f183d4067ed64364bad055a8baba6c2e9b1e9b71cd474a5682b30123b024a", func := "herald/heraldlaw10.OpenJudges", spec := "openJudges", inPlace := ["slices.overlaps[int]", "slices.overlaps[herald/api.Restart]", "slices.overlaps[herald/api.Add]"], unfollowed := true, recurses := true, named := ["herald/prim.families"], apart := false, laid := [("herald/prim.families", laid_herald_prim_families)] }
def OpenJudgesSaid : Prop := openJudgesRow.holds Tryd.pinned (OpenSpec.ofChange openJudgesSpec)

/-- ITS FALSE NEIGHBOUR: 'it returns false'. Refute it at one input. -/
def openJudgesWrong : ChangeSpec := { name := "openJudges", fn := fun _ => fun
  | [d] => { results := [.lit (.bool false)], args := [d] }
  | _ => none }
def OpenJudgesWrongFalsely : Prop := openJudgesRow.holds Tryd.pinned (OpenSpec.ofChange openJudgesWrong)

/-- 'heraldlaw10.OpenOurs': WHATEVER THE INPUT: true; the input reads as it did. -/
def openOursSpec : ChangeSpec := { name := "openOurs", fn := fun _ => fun
  | [d1, d2] => { results := [.lit (.bool true)], args := [d1, d2] }
  | _ => none }
def openOursRow : OpenClaim := { program := "ytlhnfejgkhilkaadoor", sum := "cc2f183d4067ed64364bad055a8baba6c2e9b1e9b71cd474a5682b30123b024a", func := "herald/heraldlaw10.OpenOurs", spec := "openOurs", inPlace := ["slices.overlaps[int]", "slices.overlaps[herald/api.Restart]", "slices.overlaps[herald/api.Add]"], unfollowed := true, recurses := true, named := ["herald/prim.families"], apart := false, laid := [("herald/prim.families", laid_herald_prim_families)] }
def OpenOursSaid : Prop := openOursRow.holds Tryd.pinned (OpenSpec.ofChange openOursSpec)

/-- ITS FALSE NEIGHBOUR: 'it returns false'. Refute it at one input. -/
def openOursWrong : ChangeSpec := { name := "openOurs", fn := fun _ => fun
  | [d1, d2] => { results := [.lit (.bool false)], args := [d1, d2] }
  | _ => none }
def OpenOursWrongFalsely : Prop := openOursRow.holds Tryd.pinned (OpenSpec.ofChange openOursWrong)

/-- 'heraldlaw10.OpenBack': WHATEVER THE INPUT: true; the input reads as it did. -/
def openBackSpec : ChangeSpec := { name := "openBack", fn := fun _ => fun
  | [d] => { results := [.lit (.bool true)], args := [d] }
  | _ => none }
def openBackRow : OpenClaim := { program := "ytlhnfejgkhilkaadoor", sum := "cc2f183d4067ed64364bad055a8baba6c2e9b1e9b71cd474a5682b30123b024a", func := "herald/heraldlaw10.OpenBack", spec := "openBack", inPlace := ["slices.overlaps[int]", "slices.overlaps[herald/api.Restart]", "slices.overlaps[herald/api.Add]"], unfollowed := true, recurses := true, named := ["herald/prim.families"], apart := false, laid := [("herald/prim.families", laid_herald_prim_families)] }
def OpenBackSaid : Prop := openBackRow.holds Tryd.pinned (OpenSpec.ofChange openBackSpec)

/-- ITS FALSE NEIGHBOUR: 'it returns false'. Refute it at one input. -/
def openBackWrong : ChangeSpec := { name := "openBack", fn := fun _ => fun
  | [d] => { results := [.lit (.bool false)], args := [d] }
  | _ => none }
def OpenBackWrongFalsely : Prop := openBackRow.holds Tryd.pinned (OpenSpec.ofChange openBackWrong)

/-- 'heraldlaw10.OpenMay': WHATEVER THE INPUT: true; the input reads as it did. -/
def openMaySpec : ChangeSpec := { name := "openMay", fn := fun _ => fun
  | [d] => { results := [.lit (.bool true)], args := [d] }
  | _ => none }
def openMayRow : OpenClaim := { program := "ytlhnfejgkhilkaadoor", sum := "cc2f183d4067ed64364bad055a8baba6c2e9b1e9b71cd474a5682b30123b024a", func := "herald/heraldlaw10.OpenMay", spec := "openMay", inPlace := ["slices.overlaps[int]", "slices.overlaps[herald/api.Restart]", "slices.overlaps[herald/api.Add]"], unfollowed := true, recurses := true, named := ["herald/prim.families"], apart := false, laid := [("herald/prim.families", laid_herald_prim_families)] }
def OpenMaySaid : Prop := openMayRow.holds Tryd.pinned (OpenSpec.ofChange openMaySpec)

/-- ITS FALSE NEIGHBOUR: 'it returns false'. Refute it at one input. -/
def openMayWrong : ChangeSpec := { name := "openMay", fn := fun _ => fun
  | [d] => { results := [.lit (.bool false)], args := [d] }
  | _ => none }
def OpenMayWrongFalsely : Prop := openMayRow.holds Tryd.pinned (OpenSpec.ofChange openMayWrong)

/- THE SECOND FORM. 'bulk': how many values and letters a reading holds, each counted each time it is reached (what is shared counts as often as it is met; a slice's spare places count too). A statement '..UptoSaid' is the law's where the arguments, and the package variables that the reading takes, are together of bulk at most 1048576: NARROWER than '..Said'. Prove '..Said' where nothing that the law and all that it calls make is longer than what came in: it says more and counts as full. Else prove '..UptoSaid'. A law counts once. -/
mutual
def uptoBulk {H : Type} : DataW H → Nat
  | .lit (.string bytes) => bytes.length + 1
  | .lit _ => 1
  | .nil => 1
  | .ptr d => uptoBulk d + 1
  | .slice elems spare => uptoBulkAll elems + uptoBulkAll spare + 1
  | .agg parts => uptoBulkAll parts + 1
  | .iface _ d => uptoBulk d + 1
  | .map entries => uptoBulkEntries entries + 1
  | .held _ => 1
def uptoBulkAll {H : Type} : List (DataW H) → Nat
  | [] => 0
  | d :: r => uptoBulk d + uptoBulkAll r
def uptoBulkEntries {H : Type} : List (Lit × DataW H) → Nat
  | [] => 0
  | x :: r => uptoBulkEntry x + uptoBulkEntries r
def uptoBulkEntry {H : Type} : Lit × DataW H → Nat
  | (.string bytes, d) => bytes.length + uptoBulk d + 1
  | (_, d) => uptoBulk d + 1
 end
def uptoSmall : (H : Type) → List (DataW H) → Bool := fun _ ds => decide (uptoBulkAll ds ≤ 1048576)
def OpenSpec.upto (s : _root_.Go.ChangeSpec) : _root_.Go.OpenSpec := { _root_.Go.OpenSpec.ofChange s with cond := some uptoSmall }

/-- 'heraldlaw10.OpenLays', WHERE WHAT IT READS IS OF BULK AT MOST 1048576: true; the input reads as it did. -/
def openLaysUptoRow : OpenClaim := { program := "ytlhnfejgkhilkaadoor", sum := "cc2f183d4067ed64364bad055a8baba6c2e9b1e9b71cd474a5682b30123b024a", func := "herald/heraldlaw10.OpenLays", spec := "openLays", inPlace := ["slices.overlaps[int]", "slices.overlaps[herald/api.Restart]", "slices.overlaps[herald/api.Add]"], unfollowed := true, recurses := true, named := ["herald/prim.families"], apart := false, laid := [("herald/prim.families", laid_herald_prim_families)], narrowed := true }
def OpenLaysUptoSaid : Prop := openLaysUptoRow.holds Tryd.pinned (OpenSpec.upto openLaysSpec)

/-- 'heraldlaw10.OpenJudges', WHERE WHAT IT READS IS OF BULK AT MOST 1048576: true; the input reads as it did. -/
def openJudgesUptoRow : OpenClaim := { program := "ytlhnfejgkhilkaadoor", sum := "cc2f183d4067ed64364bad055a8baba6c2e9b1e9b71cd474a5682b30123b024a", func := "herald/heraldlaw10.OpenJudges", spec := "openJudges", inPlace := ["slices.overlaps[int]", "slices.overlaps[herald/api.Restart]", "slices.overlaps[herald/api.Add]"], unfollowed := true, recurses := true, named := ["herald/prim.families"], apart := false, laid := [("herald/prim.families", laid_herald_prim_families)], narrowed := true }
def OpenJudgesUptoSaid : Prop := openJudgesUptoRow.holds Tryd.pinned (OpenSpec.upto openJudgesSpec)

/-- 'heraldlaw10.OpenOurs', WHERE WHAT IT READS IS OF BULK AT MOST 1048576: true; the input reads as it did. -/
def openOursUptoRow : OpenClaim := { program := "ytlhnfejgkhilkaadoor", sum := "cc2f183d4067ed64364bad055a8baba6c2e9b1e9b71cd474a5682b30123b024a", func := "herald/heraldlaw10.OpenOurs", spec := "openOurs", inPlace := ["slices.overlaps[int]", "slices.overlaps[herald/api.Restart]", "slices.overlaps[herald/api.Add]"], unfollowed := true, recurses := true, named := ["herald/prim.families"], apart := false, laid := [("herald/prim.families", laid_herald_prim_families)], narrowed := true }
def OpenOursUptoSaid : Prop := openOursUptoRow.holds Tryd.pinned (OpenSpec.upto openOursSpec)

/-- 'heraldlaw10.OpenBack', WHERE WHAT IT READS IS OF BULK AT MOST 1048576: true; the input reads as it did. -/
def openBackUptoRow : OpenClaim := { program := "ytlhnfejgkhilkaadoor", sum := "cc2f183d4067ed64364bad055a8baba6c2e9b1e9b71cd474a5682b30123b024a", func := "herald/heraldlaw10.OpenBack", spec := "openBack", inPlace := ["slices.overlaps[int]", "slices.overlaps[herald/api.Restart]", "slices.overlaps[herald/api.Add]"], unfollowed := true, recurses := true, named := ["herald/prim.families"], apart := false, laid := [("herald/prim.families", laid_herald_prim_families)], narrowed := true }
def OpenBackUptoSaid : Prop := openBackUptoRow.holds Tryd.pinned (OpenSpec.upto openBackSpec)

/-- 'heraldlaw10.OpenMay', WHERE WHAT IT READS IS OF BULK AT MOST 1048576: true; the input reads as it did. -/
def openMayUptoRow : OpenClaim := { program := "ytlhnfejgkhilkaadoor", sum := "cc2f183d4067ed64364bad055a8baba6c2e9b1e9b71cd474a5682b30123b024a", func := "herald/heraldlaw10.OpenMay", spec := "openMay", inPlace := ["slices.overlaps[int]", "slices.overlaps[herald/api.Restart]", "slices.overlaps[herald/api.Add]"], unfollowed := true, recurses := true, named := ["herald/prim.families"], apart := false, laid := [("herald/prim.families", laid_herald_prim_families)], narrowed := true }
def OpenMayUptoSaid : Prop := openMayUptoRow.holds Tryd.pinned (OpenSpec.upto openMaySpec)

end Rows
end Go.Proofs.YtlhnfejgkhilkaaDoor
