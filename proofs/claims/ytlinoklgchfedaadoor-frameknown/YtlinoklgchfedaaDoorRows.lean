/-
  NARROWER THAN 'FOR EVERY INPUT', by the rows' own cells (each row's printed sentence says how): FrameCuts: laid · FrameMakes: laid · FrameBack: laid · FrameBroken: laid · FrameKnown: laid.
  DERIVED. THE GIVEN ROWS OF THIS SEAT. 5 by the template 'for every input the law returns true; each argument reads behind the call as it read before'; 0 by the template 'total and deterministic' (their statements: YtlinoklgchfedaaDoorTotals.lean).
  GIVEN WITH THE SEED: the statements are not yours to turn. If you find one false, say at which input.
  Laid BY PROGRAM, IN A SANDBOX (cutbox-rows.mjs): the forced cells as the released guide's own fill.sh prints them over the translation a98b0dc8e28d3f02… (all of the seat's roots in one cut). By AI agents, Wed Nov 11 2026. No macro, syntax, notation, axiom, sorry.
-/
import Derived.Test.YtlinoklgchfedaaDoorChecked
import GoSem.Claim
import GoSem.ClaimJoined
import GoSem.ClaimMapViews
import Derived.JoinedTies
import Derived.KernelRfl
namespace Go.Proofs.YtlinoklgchfedaaDoor
/- THE CELL 'sum', in the pinned program and in every row, IS THE sha256 OF THE DUMP (.gsa) THAT YtlinoklgchfedaaDoorProg.lean LOADS. Nothing in Lean hashes anything: it is a label: what it is worth is what the hold of that sum in a sandbox is worth. -/
noncomputable def Tryd.pinned : Pinned := { name := "ytlinoklgchfedaadoor", sum := "a98b0dc8e28d3f0293a37b81ef935b38866967e934693bbf66e3a8cea20318ed", checked := Tryd.checked }
namespace Rows
def none {H : Type} : Left H := { results := [], args := [] }

/- WHAT THE LISTED PACKAGE-LEVEL VARIABLES READ AS WHEN THE CALL BEGINS. Each datum BY PROGRAM (the guide's laid-datum.mjs) off the statement by which the dump's own 'gosem.cut.vars' lays the variable. In a bare row this is a premise. The card (YtlinoklgchfedaaDoorCards.lean) ties it to the program's text. -/
def laid_herald_frame_sizes {H : Type} : DataW H := .agg [.agg [.lit (.int .i64 0), .lit (.int .i64 0)], .agg [.lit (.int .i64 29), .lit (.int .i64 4096)], .agg [.lit (.int .i64 23), .lit (.int .i64 4096)], .agg [.lit (.int .i64 21), .lit (.int .i64 4096)], .agg [.lit (.int .i64 19), .lit (.int .i64 19)], .agg [.lit (.int .i64 23), .lit (.int .i64 23)]]

/-- 'heraldlaw09.FrameCuts': WHATEVER THE INPUT: true; the input reads as it did. -/
def frameCutsSpec : ChangeSpec := { name := "frameCuts", fn := fun _ => fun
  | [d] => { results := [.lit (.bool true)], args := [d] }
  | _ => none }
def frameCutsRow : OpenClaim := { program := "ytlinoklgchfedaadoor", sum := "a98b0dc8e28d3f0293a37b81ef935b38866967e934693bbf66e3a8cea20318ed", func := "herald/heraldlaw09.FrameCuts", spec := "frameCuts", named := ["herald/frame.sizes"], apart := false, laid := [("herald/frame.sizes", laid_herald_frame_sizes)] }
def FrameCutsSaid : Prop := frameCutsRow.holds Tryd.pinned (OpenSpec.ofChange frameCutsSpec)

/-- ITS FALSE NEIGHBOUR: 'it returns false'. Refute it at one input. -/
def frameCutsWrong : ChangeSpec := { name := "frameCuts", fn := fun _ => fun
  | [d] => { results := [.lit (.bool false)], args := [d] }
  | _ => none }
def FrameCutsWrongFalsely : Prop := frameCutsRow.holds Tryd.pinned (OpenSpec.ofChange frameCutsWrong)

/-- 'heraldlaw09.FrameMakes': WHATEVER THE INPUT: true; the input reads as it did. -/
def frameMakesSpec : ChangeSpec := { name := "frameMakes", fn := fun _ => fun
  | [d] => { results := [.lit (.bool true)], args := [d] }
  | _ => none }
def frameMakesRow : OpenClaim := { program := "ytlinoklgchfedaadoor", sum := "a98b0dc8e28d3f0293a37b81ef935b38866967e934693bbf66e3a8cea20318ed", func := "herald/heraldlaw09.FrameMakes", spec := "frameMakes", named := ["herald/frame.sizes"], apart := false, laid := [("herald/frame.sizes", laid_herald_frame_sizes)] }
def FrameMakesSaid : Prop := frameMakesRow.holds Tryd.pinned (OpenSpec.ofChange frameMakesSpec)

/-- ITS FALSE NEIGHBOUR: 'it returns false'. Refute it at one input. -/
def frameMakesWrong : ChangeSpec := { name := "frameMakes", fn := fun _ => fun
  | [d] => { results := [.lit (.bool false)], args := [d] }
  | _ => none }
def FrameMakesWrongFalsely : Prop := frameMakesRow.holds Tryd.pinned (OpenSpec.ofChange frameMakesWrong)

/-- 'heraldlaw09.FrameBack': WHATEVER THE INPUT: true; the input reads as it did. -/
def frameBackSpec : ChangeSpec := { name := "frameBack", fn := fun _ => fun
  | [d1, d2] => { results := [.lit (.bool true)], args := [d1, d2] }
  | _ => none }
def frameBackRow : OpenClaim := { program := "ytlinoklgchfedaadoor", sum := "a98b0dc8e28d3f0293a37b81ef935b38866967e934693bbf66e3a8cea20318ed", func := "herald/heraldlaw09.FrameBack", spec := "frameBack", named := ["herald/frame.sizes"], apart := false, laid := [("herald/frame.sizes", laid_herald_frame_sizes)] }
def FrameBackSaid : Prop := frameBackRow.holds Tryd.pinned (OpenSpec.ofChange frameBackSpec)

/-- ITS FALSE NEIGHBOUR: 'it returns false'. Refute it at one input. -/
def frameBackWrong : ChangeSpec := { name := "frameBack", fn := fun _ => fun
  | [d1, d2] => { results := [.lit (.bool false)], args := [d1, d2] }
  | _ => none }
def FrameBackWrongFalsely : Prop := frameBackRow.holds Tryd.pinned (OpenSpec.ofChange frameBackWrong)

/-- 'heraldlaw09.FrameBroken': WHATEVER THE INPUT: true; the input reads as it did. -/
def frameBrokenSpec : ChangeSpec := { name := "frameBroken", fn := fun _ => fun
  | [d1, d2, d3] => { results := [.lit (.bool true)], args := [d1, d2, d3] }
  | _ => none }
def frameBrokenRow : OpenClaim := { program := "ytlinoklgchfedaadoor", sum := "a98b0dc8e28d3f0293a37b81ef935b38866967e934693bbf66e3a8cea20318ed", func := "herald/heraldlaw09.FrameBroken", spec := "frameBroken", named := ["herald/frame.sizes"], apart := false, laid := [("herald/frame.sizes", laid_herald_frame_sizes)] }
def FrameBrokenSaid : Prop := frameBrokenRow.holds Tryd.pinned (OpenSpec.ofChange frameBrokenSpec)

/-- ITS FALSE NEIGHBOUR: 'it returns false'. Refute it at one input. -/
def frameBrokenWrong : ChangeSpec := { name := "frameBroken", fn := fun _ => fun
  | [d1, d2, d3] => { results := [.lit (.bool false)], args := [d1, d2, d3] }
  | _ => none }
def FrameBrokenWrongFalsely : Prop := frameBrokenRow.holds Tryd.pinned (OpenSpec.ofChange frameBrokenWrong)

/-- 'heraldlaw09.FrameKnown': WHATEVER THE INPUT: true; the input reads as it did. -/
def frameKnownSpec : ChangeSpec := { name := "frameKnown", fn := fun _ => fun
  | [] => { results := [.lit (.bool true)], args := [] }
  | _ => none }
def frameKnownRow : OpenClaim := { program := "ytlinoklgchfedaadoor", sum := "a98b0dc8e28d3f0293a37b81ef935b38866967e934693bbf66e3a8cea20318ed", func := "herald/heraldlaw09.FrameKnown", spec := "frameKnown", named := ["herald/frame.sizes"], apart := false, laid := [("herald/frame.sizes", laid_herald_frame_sizes)] }
def FrameKnownSaid : Prop := frameKnownRow.holds Tryd.pinned (OpenSpec.ofChange frameKnownSpec)

/-- ITS FALSE NEIGHBOUR: 'it returns false'. Refute it at one input. -/
def frameKnownWrong : ChangeSpec := { name := "frameKnown", fn := fun _ => fun
  | [] => { results := [.lit (.bool false)], args := [] }
  | _ => none }
def FrameKnownWrongFalsely : Prop := frameKnownRow.holds Tryd.pinned (OpenSpec.ofChange frameKnownWrong)

/- THE SECOND FORM. 'bulk': how many values and letters a reading holds, each counted each time it is reached (what is shared counts as often as it is met; a slice's spare places count too). A statement '..UptoSaid' is the law's where the arguments, and the package variables that the reading takes, are together of bulk at most 1048576: NARROWER than '..Said'. Prove '..Said' where nothing that the law and all that it calls make is longer than what came in: it says more and counts as full. Else prove '..UptoSaid'. A law counts once. -/
mutual
def uptoBulk {H : Type} : DataW H → Nat
  | .lit (.string bytes) => bytes.length + 1
  | .lit _ => 1
  | .nil => 1
  | .ptr d => uptoBulk d + 1
  | .slice elems spare => uptoBulkAll elems + uptoBulkAll spare + 1
  | .agg parts => uptoBulkAll parts + 1
  | .iface _ d => uptoBulk d + 1
  | .map entries => uptoBulkEntries entries + 1
  | .held _ => 1
def uptoBulkAll {H : Type} : List (DataW H) → Nat
  | [] => 0
  | d :: r => uptoBulk d + uptoBulkAll r
def uptoBulkEntries {H : Type} : List (Lit × DataW H) → Nat
  | [] => 0
  | x :: r => uptoBulkEntry x + uptoBulkEntries r
def uptoBulkEntry {H : Type} : Lit × DataW H → Nat
  | (.string bytes, d) => bytes.length + uptoBulk d + 1
  | (_, d) => uptoBulk d + 1
 end
def uptoSmall : (H : Type) → List (DataW H) → Bool := fun _ ds => decide (uptoBulkAll ds ≤ 1048576)
def OpenSpec.upto (s : _root_.Go.ChangeSpec) : _root_.Go.OpenSpec := { _root_.Go.OpenSpec.ofChange s with cond := some uptoSmall }

/-- 'heraldlaw09.FrameCuts', WHERE WHAT IT READS IS OF BULK AT MOST 1048576: true; the input reads as it did. -/
def frameCutsUptoRow : OpenClaim := { program := "ytlinoklgchfedaadoor", sum := "a98b0dc8e28d3f0293a37b81ef935b38866967e934693bbf66e3a8cea20318ed", func := "herald/heraldlaw09.FrameCuts", spec := "frameCuts", named := ["herald/frame.sizes"], apart := false, laid := [("herald/frame.sizes", laid_herald_frame_sizes)], narrowed := true }
def FrameCutsUptoSaid : Prop := frameCutsUptoRow.holds Tryd.pinned (OpenSpec.upto frameCutsSpec)

/-- 'heraldlaw09.FrameMakes', WHERE WHAT IT READS IS OF BULK AT MOST 1048576: true; the input reads as it did. -/
def frameMakesUptoRow : OpenClaim := { program := "ytlinoklgchfedaadoor", sum := "a98b0dc8e28d3f0293a37b81ef935b38866967e934693bbf66e3a8cea20318ed", func := "herald/heraldlaw09.FrameMakes", spec := "frameMakes", named := ["herald/frame.sizes"], apart := false, laid := [("herald/frame.sizes", laid_herald_frame_sizes)], narrowed := true }
def FrameMakesUptoSaid : Prop := frameMakesUptoRow.holds Tryd.pinned (OpenSpec.upto frameMakesSpec)

/-- 'heraldlaw09.FrameBack', WHERE WHAT IT READS IS OF BULK AT MOST 1048576: true; the input reads as it did. -/
def frameBackUptoRow : OpenClaim := { program := "ytlinoklgchfedaadoor", sum := "a98b0dc8e28d3f0293a37b81ef935b38866967e934693bbf66e3a8cea20318ed", func := "herald/heraldlaw09.FrameBack", spec := "frameBack", named := ["herald/frame.sizes"], apart := false, laid := [("herald/frame.sizes", laid_herald_frame_sizes)], narrowed := true }
def FrameBackUptoSaid : Prop := frameBackUptoRow.holds Tryd.pinned (OpenSpec.upto frameBackSpec)

/-- 'heraldlaw09.FrameBroken', WHERE WHAT IT READS IS OF BULK AT MOST 1048576: true; the input reads as it did. -/
def frameBrokenUptoRow : OpenClaim := { program := "ytlinoklgchfedaadoor", sum := "a98b0dc8e28d3f0293a37b81ef935b38866967e934693bbf66e3a8cea20318ed", func := "herald/heraldlaw09.FrameBroken", spec := "frameBroken", named := ["herald/frame.sizes"], apart := false, laid := [("herald/frame.sizes", laid_herald_frame_sizes)], narrowed := true }
def FrameBrokenUptoSaid : Prop := frameBrokenUptoRow.holds Tryd.pinned (OpenSpec.upto frameBrokenSpec)

/-- 'heraldlaw09.FrameKnown', WHERE WHAT IT READS IS OF BULK AT MOST 1048576: true; the input reads as it did. -/
def frameKnownUptoRow : OpenClaim := { program := "ytlinoklgchfedaadoor", sum := "a98b0dc8e28d3f0293a37b81ef935b38866967e934693bbf66e3a8cea20318ed", func := "herald/heraldlaw09.FrameKnown", spec := "frameKnown", named := ["herald/frame.sizes"], apart := false, laid := [("herald/frame.sizes", laid_herald_frame_sizes)], narrowed := true }
def FrameKnownUptoSaid : Prop := frameKnownUptoRow.holds Tryd.pinned (OpenSpec.upto frameKnownSpec)

end Rows
end Go.Proofs.YtlinoklgchfedaaDoor
