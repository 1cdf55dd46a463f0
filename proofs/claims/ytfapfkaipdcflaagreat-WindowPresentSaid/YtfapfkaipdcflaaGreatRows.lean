/-
  No cell of these rows narrows 'for every input' (looked for: loops, veiled, ifaces, maps, wideKeys, modest, calm, conditions, laid).
  DERIVED. THE GIVEN ROWS OF THIS SEAT. 4 by the template 'for every input the law returns true; each argument reads behind the call as it read before'; 0 by the template 'total and deterministic' (their statements: YtfapfkaipdcflaaGreatTotals.lean).
  GIVEN WITH THE SEED: the statements are not yours to turn. If you find one false, say at which input.
  Laid BY PROGRAM, IN A SANDBOX (cutbox-rows.mjs): the forced cells as the released guide's own fill.sh prints them over the translation 4c8debc9178ce8f2… (all of the seat's roots in one cut). By AI agents, Wed Nov 11 2026. No macro, syntax, notation, axiom, sorry.
-/
import Derived.Test.YtfapfkaipdcflaaGreatChecked
import GoSem.Claim
import GoSem.ClaimJoined
import GoSem.ClaimMapViews
import Derived.JoinedTies
import Derived.KernelRfl
namespace Go.Proofs.YtfapfkaipdcflaaGreat
/- THE CELL 'sum', in the pinned program and in every row, IS THE sha256 OF THE DUMP (.gsa) THAT YtfapfkaipdcflaaGreatProg.lean LOADS. Nothing in Lean hashes anything: it is a label: what it is worth is what the hold of that sum in a sandbox is worth. -/
noncomputable def Tryz.pinned : Pinned := { name := "ytfapfkaipdcflaagreat", sum := "4c8debc9178ce8f289da757c2d347a513e60be1a5dc77c3c42dd0f3c91fb4325", checked := Tryz.checked }
namespace Rows
def none {H : Type} : Left H := { results := [], args := [] }

/-- 'cohesionlaw07.WindowPresent': WHATEVER THE INPUT: true; the input reads as it did. -/
def windowPresentSpec : ChangeSpec := { name := "windowPresent", fn := fun _ => fun
  | [d1, d2, d3, d4] => { results := [.lit (.bool true)], args := [d1, d2, d3, d4] }
  | _ => none }
def windowPresentRow : OpenClaim := { program := "ytfapfkaipdcflaagreat", sum := "4c8debc9178ce8f289da757c2d347a513e60be1a5dc77c3c42dd0f3c91fb4325", func := "cohesion/cohesionlaw07.WindowPresent", spec := "windowPresent", inPlace := ["slices.overlaps[cohesion/api.Link]"], unfollowed := true, recurses := true, apart := false }
def WindowPresentSaid : Prop := windowPresentRow.holds Tryz.pinned (OpenSpec.ofChange windowPresentSpec)

/-- ITS FALSE NEIGHBOUR: 'it returns false'. Refute it at one input. -/
def windowPresentWrong : ChangeSpec := { name := "windowPresent", fn := fun _ => fun
  | [d1, d2, d3, d4] => { results := [.lit (.bool false)], args := [d1, d2, d3, d4] }
  | _ => none }
def WindowPresentWrongFalsely : Prop := windowPresentRow.holds Tryz.pinned (OpenSpec.ofChange windowPresentWrong)

/-- 'cohesionlaw07.WindowSlides': WHATEVER THE INPUT: true; the input reads as it did. -/
def windowSlidesSpec : ChangeSpec := { name := "windowSlides", fn := fun _ => fun
  | [d1, d2, d3, d4] => { results := [.lit (.bool true)], args := [d1, d2, d3, d4] }
  | _ => none }
def windowSlidesRow : OpenClaim := { program := "ytfapfkaipdcflaagreat", sum := "4c8debc9178ce8f289da757c2d347a513e60be1a5dc77c3c42dd0f3c91fb4325", func := "cohesion/cohesionlaw07.WindowSlides", spec := "windowSlides", inPlace := ["slices.overlaps[cohesion/api.Link]"], unfollowed := true, recurses := true, apart := false }
def WindowSlidesSaid : Prop := windowSlidesRow.holds Tryz.pinned (OpenSpec.ofChange windowSlidesSpec)

/-- ITS FALSE NEIGHBOUR: 'it returns false'. Refute it at one input. -/
def windowSlidesWrong : ChangeSpec := { name := "windowSlides", fn := fun _ => fun
  | [d1, d2, d3, d4] => { results := [.lit (.bool false)], args := [d1, d2, d3, d4] }
  | _ => none }
def WindowSlidesWrongFalsely : Prop := windowSlidesRow.holds Tryz.pinned (OpenSpec.ofChange windowSlidesWrong)

/-- 'cohesionlaw07.WindowBehind': WHATEVER THE INPUT: true; the input reads as it did. -/
def windowBehindSpec : ChangeSpec := { name := "windowBehind", fn := fun _ => fun
  | [d1, d2] => { results := [.lit (.bool true)], args := [d1, d2] }
  | _ => none }
def windowBehindRow : OpenClaim := { program := "ytfapfkaipdcflaagreat", sum := "4c8debc9178ce8f289da757c2d347a513e60be1a5dc77c3c42dd0f3c91fb4325", func := "cohesion/cohesionlaw07.WindowBehind", spec := "windowBehind", inPlace := ["slices.overlaps[cohesion/api.Link]"], unfollowed := true, recurses := true, apart := false }
def WindowBehindSaid : Prop := windowBehindRow.holds Tryz.pinned (OpenSpec.ofChange windowBehindSpec)

/-- ITS FALSE NEIGHBOUR: 'it returns false'. Refute it at one input. -/
def windowBehindWrong : ChangeSpec := { name := "windowBehind", fn := fun _ => fun
  | [d1, d2] => { results := [.lit (.bool false)], args := [d1, d2] }
  | _ => none }
def WindowBehindWrongFalsely : Prop := windowBehindRow.holds Tryz.pinned (OpenSpec.ofChange windowBehindWrong)

/-- 'cohesionlaw07.WindowCounts': WHATEVER THE INPUT: true; the input reads as it did. -/
def windowCountsSpec : ChangeSpec := { name := "windowCounts", fn := fun _ => fun
  | [d1, d2] => { results := [.lit (.bool true)], args := [d1, d2] }
  | _ => none }
def windowCountsRow : OpenClaim := { program := "ytfapfkaipdcflaagreat", sum := "4c8debc9178ce8f289da757c2d347a513e60be1a5dc77c3c42dd0f3c91fb4325", func := "cohesion/cohesionlaw07.WindowCounts", spec := "windowCounts", inPlace := ["slices.overlaps[cohesion/api.Link]"], unfollowed := true, recurses := true, apart := false }
def WindowCountsSaid : Prop := windowCountsRow.holds Tryz.pinned (OpenSpec.ofChange windowCountsSpec)

/-- ITS FALSE NEIGHBOUR: 'it returns false'. Refute it at one input. -/
def windowCountsWrong : ChangeSpec := { name := "windowCounts", fn := fun _ => fun
  | [d1, d2] => { results := [.lit (.bool false)], args := [d1, d2] }
  | _ => none }
def WindowCountsWrongFalsely : Prop := windowCountsRow.holds Tryz.pinned (OpenSpec.ofChange windowCountsWrong)

/- THE SECOND FORM. 'bulk': how many values and letters a reading holds, each counted each time it is reached (what is shared counts as often as it is met; a slice's spare places count too). A statement '..UptoSaid' is the law's where the arguments, and the package variables that the reading takes, are together of bulk at most 1048576: NARROWER than '..Said'. Prove '..Said' where nothing that the law and all that it calls make is longer than what came in: it says more and counts as full. Else prove '..UptoSaid'. A law counts once. -/
mutual
def uptoBulk {H : Type} : DataW H → Nat
  | .lit (.string bytes) => bytes.length + 1
  | .lit _ => 1
  | .nil => 1
  | .ptr d => uptoBulk d + 1
  | .slice elems spare => uptoBulkAll elems + uptoBulkAll spare + 1
  | .agg parts => uptoBulkAll parts + 1
  | .iface _ d => uptoBulk d + 1
  | .map entries => uptoBulkEntries entries + 1
  | .held _ => 1
def uptoBulkAll {H : Type} : List (DataW H) → Nat
  | [] => 0
  | d :: r => uptoBulk d + uptoBulkAll r
def uptoBulkEntries {H : Type} : List (Lit × DataW H) → Nat
  | [] => 0
  | x :: r => uptoBulkEntry x + uptoBulkEntries r
def uptoBulkEntry {H : Type} : Lit × DataW H → Nat
  | (.string bytes, d) => bytes.length + uptoBulk d + 1
  | (_, d) => uptoBulk d + 1
 end
def uptoSmall : (H : Type) → List (DataW H) → Bool := fun _ ds => decide (uptoBulkAll ds ≤ 1048576)
def OpenSpec.upto (s : _root_.Go.ChangeSpec) : _root_.Go.OpenSpec := { _root_.Go.OpenSpec.ofChange s with cond := some uptoSmall }

/-- 'cohesionlaw07.WindowPresent', WHERE WHAT IT READS IS OF BULK AT MOST 1048576: true; the input reads as it did. -/
def windowPresentUptoRow : OpenClaim := { program := "ytfapfkaipdcflaagreat", sum := "4c8debc9178ce8f289da757c2d347a513e60be1a5dc77c3c42dd0f3c91fb4325", func := "cohesion/cohesionlaw07.WindowPresent", spec := "windowPresent", inPlace := ["slices.overlaps[cohesion/api.Link]"], unfollowed := true, recurses := true, apart := false, narrowed := true }
def WindowPresentUptoSaid : Prop := windowPresentUptoRow.holds Tryz.pinned (OpenSpec.upto windowPresentSpec)

/-- 'cohesionlaw07.WindowSlides', WHERE WHAT IT READS IS OF BULK AT MOST 1048576: true; the input reads as it did. -/
def windowSlidesUptoRow : OpenClaim := { program := "ytfapfkaipdcflaagreat", sum := "4c8debc9178ce8f289da757c2d347a513e60be1a5dc77c3c42dd0f3c91fb4325", func := "cohesion/cohesionlaw07.WindowSlides", spec := "windowSlides", inPlace := ["slices.overlaps[cohesion/api.Link]"], unfollowed := true, recurses := true, apart := false, narrowed := true }
def WindowSlidesUptoSaid : Prop := windowSlidesUptoRow.holds Tryz.pinned (OpenSpec.upto windowSlidesSpec)

/-- 'cohesionlaw07.WindowBehind', WHERE WHAT IT READS IS OF BULK AT MOST 1048576: true; the input reads as it did. -/
def windowBehindUptoRow : OpenClaim := { program := "ytfapfkaipdcflaagreat", sum := "4c8debc9178ce8f289da757c2d347a513e60be1a5dc77c3c42dd0f3c91fb4325", func := "cohesion/cohesionlaw07.WindowBehind", spec := "windowBehind", inPlace := ["slices.overlaps[cohesion/api.Link]"], unfollowed := true, recurses := true, apart := false, narrowed := true }
def WindowBehindUptoSaid : Prop := windowBehindUptoRow.holds Tryz.pinned (OpenSpec.upto windowBehindSpec)

/-- 'cohesionlaw07.WindowCounts', WHERE WHAT IT READS IS OF BULK AT MOST 1048576: true; the input reads as it did. -/
def windowCountsUptoRow : OpenClaim := { program := "ytfapfkaipdcflaagreat", sum := "4c8debc9178ce8f289da757c2d347a513e60be1a5dc77c3c42dd0f3c91fb4325", func := "cohesion/cohesionlaw07.WindowCounts", spec := "windowCounts", inPlace := ["slices.overlaps[cohesion/api.Link]"], unfollowed := true, recurses := true, apart := false, narrowed := true }
def WindowCountsUptoSaid : Prop := windowCountsUptoRow.holds Tryz.pinned (OpenSpec.upto windowCountsSpec)

end Rows
end Go.Proofs.YtfapfkaipdcflaaGreat
