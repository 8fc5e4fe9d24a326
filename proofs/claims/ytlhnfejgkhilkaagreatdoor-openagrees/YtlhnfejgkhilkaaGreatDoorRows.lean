/-
  NARROWER THAN 'FOR EVERY INPUT', by the rows' own cells (each row's printed sentence says how): OpenAgrees: laid.
  DERIVED. THE GIVEN ROWS OF THIS SEAT. 1 by the template 'for every input the law returns true; each argument reads behind the call as it read before'; 0 by the template 'total and deterministic' (their statements: YtlhnfejgkhilkaaGreatDoorTotals.lean).
  GIVEN WITH THE SEED: the statements are not yours to turn. If you find one false, say at which input.
  Laid BY PROGRAM, IN A SANDBOX (cutbox-rows.mjs): the forced cells as the released guide's own fill.sh prints them over the translation 8e9c28a179ddac84… (all of the seat's roots in one cut). By AI agents, Wed Nov 11 2026. No macro, syntax, notation, axiom, sorry.
-/
import Derived.Test.YtlhnfejgkhilkaaGreatDoorChecked
import GoSem.Claim
import GoSem.ClaimJoined
import GoSem.ClaimMapViews
import Derived.JoinedTies
import Derived.KernelRfl
namespace Go.Proofs.YtlhnfejgkhilkaaGreatDoor
/- THE CELL 'sum', in the pinned program and in every row, IS THE sha256 OF THE DUMP (.gsa) THAT YtlhnfejgkhilkaaGreatDoorProg.lean LOADS. Nothing in Lean hashes anything: it is a label: what it is worth is what the hold of that sum in a sandbox is worth. -/
noncomputable def Tryz.pinned : Pinned := { name := "ytlhnfejgkhilkaagreatdoor", sum := "8e9c28a179ddac84daa94094bb8dad8a76aabfe54c977d5891599a12bd80288f", checked := Tryz.checked }
namespace Rows
def none {H : Type} : Left H := { results := [], args := [] }

/- WHAT THE LISTED PACKAGE-LEVEL VARIABLES READ AS WHEN THE CALL BEGINS. Each datum BY PROGRAM (the guide's laid-datum.mjs) off the statement by which the dump's own 'gosem.cut.vars' lays the variable. In a bare row this is a premise. The card (YtlhnfejgkhilkaaGreatDoorCards.lean) ties it to the program's text. -/
def laid_herald_prim_families {H : Type} : DataW H := .agg [.agg [.lit (.string []), .lit (.int .i64 0), .lit (.bool false)], .agg [.lit (.string [118, 52]), .lit (.int .i64 4), .lit (.bool false)], .agg [.lit (.string [118, 54]), .lit (.int .i64 16), .lit (.bool false)], .agg [.lit (.string [108, 52]), .lit (.int .i64 4), .lit (.bool false)], .agg [.lit (.string [118, 112, 110, 52]), .lit (.int .i64 4), .lit (.bool true)], .agg [.lit (.string [118, 112, 110, 54]), .lit (.int .i64 16), .lit (.bool true)]]

/-- 'heraldlaw10.OpenAgrees': WHATEVER THE INPUT: true; the input reads as it did. -/
def openAgreesSpec : ChangeSpec := { name := "openAgrees", fn := fun _ => fun
  | [d1, d2, d3] => { results := [.lit (.bool true)], args := [d1, d2, d3] }
  | _ => none }
def openAgreesRow : OpenClaim := { program := "ytlhnfejgkhilkaagreatdoor", sum := "8e9c28a179ddac84daa94094bb8dad8a76aabfe54c977d5891599a12bd80288f", func := "herald/heraldlaw10.OpenAgrees", spec := "openAgrees", inPlace := ["slices.overlaps[int]", "slices.overlaps[herald/api.Restart]", "slices.overlaps[herald/api.Add]"], unfollowed := true, recurses := true, named := ["herald/prim.families"], apart := false, laid := [("herald/prim.families", laid_herald_prim_families)] }
def OpenAgreesSaid : Prop := openAgreesRow.holds Tryz.pinned (OpenSpec.ofChange openAgreesSpec)

/-- ITS FALSE NEIGHBOUR: 'it returns false'. Refute it at one input. -/
def openAgreesWrong : ChangeSpec := { name := "openAgrees", fn := fun _ => fun
  | [d1, d2, d3] => { results := [.lit (.bool false)], args := [d1, d2, d3] }
  | _ => none }
def OpenAgreesWrongFalsely : Prop := openAgreesRow.holds Tryz.pinned (OpenSpec.ofChange openAgreesWrong)

/- THE SECOND FORM. 'bulk': how many values and letters a reading holds, each counted each time it is reached (what is shared counts as often as it is met; a slice's spare places count too). A statement '..UptoSaid' is the law's where the arguments, and the package variables that the reading takes, are together of bulk at most 1048576: NARROWER than '..Said'. Prove '..Said' where nothing that the law and all that it calls make is longer than what came in: it says more and counts as full. Else prove '..UptoSaid'. A law counts once. -/
mutual
def uptoBulk {H : Type} : DataW H → Nat
  | .lit (.string bytes) => bytes.length + 1
  | .lit _ => 1
  | .nil => 1
  | .ptr d => uptoBulk d + 1
  | .slice elems spare => uptoBulkAll elems + uptoBulkAll spare + 1
  | .agg parts => uptoBulkAll parts + 1
  | .iface _ d => uptoBulk d + 1
  | .map entries => uptoBulkEntries entries + 1
  | .held _ => 1
def uptoBulkAll {H : Type} : List (DataW H) → Nat
  | [] => 0
  | d :: r => uptoBulk d + uptoBulkAll r
def uptoBulkEntries {H : Type} : List (Lit × DataW H) → Nat
  | [] => 0
  | x :: r => uptoBulkEntry x + uptoBulkEntries r
def uptoBulkEntry {H : Type} : Lit × DataW H → Nat
  | (.string bytes, d) => bytes.length + uptoBulk d + 1
  | (_, d) => uptoBulk d + 1
 end
def uptoSmall : (H : Type) → List (DataW H) → Bool := fun _ ds => decide (uptoBulkAll ds ≤ 1048576)
def OpenSpec.upto (s : _root_.Go.ChangeSpec) : _root_.Go.OpenSpec := { _root_.Go.OpenSpec.ofChange s with cond := some uptoSmall }

/-- 'heraldlaw10.OpenAgrees', WHERE WHAT IT READS IS OF BULK AT MOST 1048576: true; the input reads as it did. -/
def openAgreesUptoRow : OpenClaim := { program := "ytlhnfejgkhilkaagreatdoor", sum := "8e9c28a179ddac84daa94094bb8dad8a76aabfe54c977d5891599a12bd80288f", func := "herald/heraldlaw10.OpenAgrees", spec := "openAgrees", inPlace := ["slices.overlaps[int]", "slices.overlaps[herald/api.Restart]", "slices.overlaps[herald/api.Add]"], unfollowed := true, recurses := true, named := ["herald/prim.families"], apart := false, laid := [("herald/prim.families", laid_herald_prim_families)], narrowed := true }
def OpenAgreesUptoSaid : Prop := openAgreesUptoRow.holds Tryz.pinned (OpenSpec.upto openAgreesSpec)

end Rows
end Go.Proofs.YtlhnfejgkhilkaaGreatDoor
