/-
  NARROWER THAN 'FOR EVERY INPUT', by the rows' own cells (each row's printed sentence says how): CivilNames: laid · CivilTells: laid · CivilCounts: laid · CivilParses: laid · CivilBack: laid · CivilNext: laid · CivilWeeks: laid.
  DERIVED. THE GIVEN ROWS OF THIS SEAT. 7 by the template 'for every input the law returns true; each argument reads behind the call as it read before'; 0 by the template 'total and deterministic' (their statements: YtfifollmpohcoaaDoorTotals.lean).
  GIVEN WITH THE SEED: the statements are not yours to turn. If you find one false, say at which input.
  Laid BY PROGRAM, IN A SANDBOX (cutbox-rows.mjs): the forced cells as the released guide's own fill.sh prints them over the translation 18f07996d9f8aab7… (all of the seat's roots in one cut). By AI agents, Wed Nov 11 2026. No macro, syntax, notation, axiom, sorry.
-/
import Derived.Test.YtfifollmpohcoaaDoorChecked
import GoSem.Claim
import GoSem.ClaimJoined
import GoSem.ClaimMapViews
import Derived.JoinedTies
import Derived.KernelRfl
namespace Go.Proofs.YtfifollmpohcoaaDoor
/- THE CELL 'sum', in the pinned program and in every row, IS THE sha256 OF THE DUMP (.gsa) THAT YtfifollmpohcoaaDoorProg.lean LOADS. Nothing in Lean hashes anything: it is a label: what it is worth is what the hold of that sum in a sandbox is worth. -/
noncomputable def Tryd.pinned : Pinned := { name := "ytfifollmpohcoaadoor", sum := "18f07996d9f8aab727c59ab4903be816523161e3852185fdd501b941ad07da7a", checked := Tryd.checked }
namespace Rows
def none {H : Type} : Left H := { results := [], args := [] }

/- WHAT THE LISTED PACKAGE-LEVEL VARIABLES READ AS WHEN THE CALL BEGINS. Each datum BY PROGRAM (the guide's laid-datum.mjs) off the statement by which the dump's own 'gosem.cut.vars' lays the variable. In a bare row this is a premise. The card (YtfifollmpohcoaaDoorCards.lean) ties it to the program's text. -/
def laid_falsework_civil_lengths {H : Type} : DataW H := .agg [.lit (.int .i64 31), .lit (.int .i64 28), .lit (.int .i64 31), .lit (.int .i64 30), .lit (.int .i64 31), .lit (.int .i64 30), .lit (.int .i64 31), .lit (.int .i64 31), .lit (.int .i64 30), .lit (.int .i64 31), .lit (.int .i64 30), .lit (.int .i64 31)]

/-- 'falseworklaw03.CivilNames': WHATEVER THE INPUT: true; the input reads as it did. -/
def civilNamesSpec : ChangeSpec := { name := "civilNames", fn := fun _ => fun
  | [] => { results := [.lit (.bool true)], args := [] }
  | _ => none }
def civilNamesRow : OpenClaim := { program := "ytfifollmpohcoaadoor", sum := "18f07996d9f8aab727c59ab4903be816523161e3852185fdd501b941ad07da7a", func := "falsework/falseworklaw03.CivilNames", spec := "civilNames", named := ["falsework/civil.lengths"], apart := false, laid := [("falsework/civil.lengths", laid_falsework_civil_lengths)] }
def CivilNamesSaid : Prop := civilNamesRow.holds Tryd.pinned (OpenSpec.ofChange civilNamesSpec)

/-- ITS FALSE NEIGHBOUR: 'it returns false'. Refute it at one input. -/
def civilNamesWrong : ChangeSpec := { name := "civilNames", fn := fun _ => fun
  | [] => { results := [.lit (.bool false)], args := [] }
  | _ => none }
def CivilNamesWrongFalsely : Prop := civilNamesRow.holds Tryd.pinned (OpenSpec.ofChange civilNamesWrong)

/-- 'falseworklaw03.CivilTells': WHATEVER THE INPUT: true; the input reads as it did. -/
def civilTellsSpec : ChangeSpec := { name := "civilTells", fn := fun _ => fun
  | [d] => { results := [.lit (.bool true)], args := [d] }
  | _ => none }
def civilTellsRow : OpenClaim := { program := "ytfifollmpohcoaadoor", sum := "18f07996d9f8aab727c59ab4903be816523161e3852185fdd501b941ad07da7a", func := "falsework/falseworklaw03.CivilTells", spec := "civilTells", named := ["falsework/civil.lengths"], apart := false, laid := [("falsework/civil.lengths", laid_falsework_civil_lengths)] }
def CivilTellsSaid : Prop := civilTellsRow.holds Tryd.pinned (OpenSpec.ofChange civilTellsSpec)

/-- ITS FALSE NEIGHBOUR: 'it returns false'. Refute it at one input. -/
def civilTellsWrong : ChangeSpec := { name := "civilTells", fn := fun _ => fun
  | [d] => { results := [.lit (.bool false)], args := [d] }
  | _ => none }
def CivilTellsWrongFalsely : Prop := civilTellsRow.holds Tryd.pinned (OpenSpec.ofChange civilTellsWrong)

/-- 'falseworklaw03.CivilCounts': WHATEVER THE INPUT: true; the input reads as it did. -/
def civilCountsSpec : ChangeSpec := { name := "civilCounts", fn := fun _ => fun
  | [d] => { results := [.lit (.bool true)], args := [d] }
  | _ => none }
def civilCountsRow : OpenClaim := { program := "ytfifollmpohcoaadoor", sum := "18f07996d9f8aab727c59ab4903be816523161e3852185fdd501b941ad07da7a", func := "falsework/falseworklaw03.CivilCounts", spec := "civilCounts", named := ["falsework/civil.lengths"], apart := false, laid := [("falsework/civil.lengths", laid_falsework_civil_lengths)] }
def CivilCountsSaid : Prop := civilCountsRow.holds Tryd.pinned (OpenSpec.ofChange civilCountsSpec)

/-- ITS FALSE NEIGHBOUR: 'it returns false'. Refute it at one input. -/
def civilCountsWrong : ChangeSpec := { name := "civilCounts", fn := fun _ => fun
  | [d] => { results := [.lit (.bool false)], args := [d] }
  | _ => none }
def CivilCountsWrongFalsely : Prop := civilCountsRow.holds Tryd.pinned (OpenSpec.ofChange civilCountsWrong)

/-- 'falseworklaw03.CivilParses': WHATEVER THE INPUT: true; the input reads as it did. -/
def civilParsesSpec : ChangeSpec := { name := "civilParses", fn := fun _ => fun
  | [d] => { results := [.lit (.bool true)], args := [d] }
  | _ => none }
def civilParsesRow : OpenClaim := { program := "ytfifollmpohcoaadoor", sum := "18f07996d9f8aab727c59ab4903be816523161e3852185fdd501b941ad07da7a", func := "falsework/falseworklaw03.CivilParses", spec := "civilParses", named := ["falsework/civil.lengths"], apart := false, laid := [("falsework/civil.lengths", laid_falsework_civil_lengths)] }
def CivilParsesSaid : Prop := civilParsesRow.holds Tryd.pinned (OpenSpec.ofChange civilParsesSpec)

/-- ITS FALSE NEIGHBOUR: 'it returns false'. Refute it at one input. -/
def civilParsesWrong : ChangeSpec := { name := "civilParses", fn := fun _ => fun
  | [d] => { results := [.lit (.bool false)], args := [d] }
  | _ => none }
def CivilParsesWrongFalsely : Prop := civilParsesRow.holds Tryd.pinned (OpenSpec.ofChange civilParsesWrong)

/-- 'falseworklaw03.CivilBack': WHATEVER THE INPUT: true; the input reads as it did. -/
def civilBackSpec : ChangeSpec := { name := "civilBack", fn := fun _ => fun
  | [d1, d2, d3] => { results := [.lit (.bool true)], args := [d1, d2, d3] }
  | _ => none }
def civilBackRow : OpenClaim := { program := "ytfifollmpohcoaadoor", sum := "18f07996d9f8aab727c59ab4903be816523161e3852185fdd501b941ad07da7a", func := "falsework/falseworklaw03.CivilBack", spec := "civilBack", named := ["falsework/civil.lengths"], apart := false, laid := [("falsework/civil.lengths", laid_falsework_civil_lengths)] }
def CivilBackSaid : Prop := civilBackRow.holds Tryd.pinned (OpenSpec.ofChange civilBackSpec)

/-- ITS FALSE NEIGHBOUR: 'it returns false'. Refute it at one input. -/
def civilBackWrong : ChangeSpec := { name := "civilBack", fn := fun _ => fun
  | [d1, d2, d3] => { results := [.lit (.bool false)], args := [d1, d2, d3] }
  | _ => none }
def CivilBackWrongFalsely : Prop := civilBackRow.holds Tryd.pinned (OpenSpec.ofChange civilBackWrong)

/-- 'falseworklaw03.CivilNext': WHATEVER THE INPUT: true; the input reads as it did. -/
def civilNextSpec : ChangeSpec := { name := "civilNext", fn := fun _ => fun
  | [d] => { results := [.lit (.bool true)], args := [d] }
  | _ => none }
def civilNextRow : OpenClaim := { program := "ytfifollmpohcoaadoor", sum := "18f07996d9f8aab727c59ab4903be816523161e3852185fdd501b941ad07da7a", func := "falsework/falseworklaw03.CivilNext", spec := "civilNext", named := ["falsework/civil.lengths"], apart := false, laid := [("falsework/civil.lengths", laid_falsework_civil_lengths)] }
def CivilNextSaid : Prop := civilNextRow.holds Tryd.pinned (OpenSpec.ofChange civilNextSpec)

/-- ITS FALSE NEIGHBOUR: 'it returns false'. Refute it at one input. -/
def civilNextWrong : ChangeSpec := { name := "civilNext", fn := fun _ => fun
  | [d] => { results := [.lit (.bool false)], args := [d] }
  | _ => none }
def CivilNextWrongFalsely : Prop := civilNextRow.holds Tryd.pinned (OpenSpec.ofChange civilNextWrong)

/-- 'falseworklaw03.CivilWeeks': WHATEVER THE INPUT: true; the input reads as it did. -/
def civilWeeksSpec : ChangeSpec := { name := "civilWeeks", fn := fun _ => fun
  | [d] => { results := [.lit (.bool true)], args := [d] }
  | _ => none }
def civilWeeksRow : OpenClaim := { program := "ytfifollmpohcoaadoor", sum := "18f07996d9f8aab727c59ab4903be816523161e3852185fdd501b941ad07da7a", func := "falsework/falseworklaw03.CivilWeeks", spec := "civilWeeks", named := ["falsework/civil.lengths"], apart := false, laid := [("falsework/civil.lengths", laid_falsework_civil_lengths)] }
def CivilWeeksSaid : Prop := civilWeeksRow.holds Tryd.pinned (OpenSpec.ofChange civilWeeksSpec)

/-- ITS FALSE NEIGHBOUR: 'it returns false'. Refute it at one input. -/
def civilWeeksWrong : ChangeSpec := { name := "civilWeeks", fn := fun _ => fun
  | [d] => { results := [.lit (.bool false)], args := [d] }
  | _ => none }
def CivilWeeksWrongFalsely : Prop := civilWeeksRow.holds Tryd.pinned (OpenSpec.ofChange civilWeeksWrong)

/- THE SECOND FORM. 'bulk': how many values and letters a reading holds, each counted each time it is reached (what is shared counts as often as it is met; a slice's spare places count too). A statement '..UptoSaid' is the law's where the arguments, and the package variables that the reading takes, are together of bulk at most 1048576: NARROWER than '..Said'. Prove '..Said' where nothing that the law and all that it calls make is longer than what came in: it says more and counts as full. Else prove '..UptoSaid'. A law counts once. -/
mutual
def uptoBulk {H : Type} : DataW H → Nat
  | .lit (.string bytes) => bytes.length + 1
  | .lit _ => 1
  | .nil => 1
  | .ptr d => uptoBulk d + 1
  | .slice elems spare => uptoBulkAll elems + uptoBulkAll spare + 1
  | .agg parts => uptoBulkAll parts + 1
  | .iface _ d => uptoBulk d + 1
  | .map entries => uptoBulkEntries entries + 1
  | .held _ => 1
def uptoBulkAll {H : Type} : List (DataW H) → Nat
  | [] => 0
  | d :: r => uptoBulk d + uptoBulkAll r
def uptoBulkEntries {H : Type} : List (Lit × DataW H) → Nat
  | [] => 0
  | x :: r => uptoBulkEntry x + uptoBulkEntries r
def uptoBulkEntry {H : Type} : Lit × DataW H → Nat
  | (.string bytes, d) => bytes.length + uptoBulk d + 1
  | (_, d) => uptoBulk d + 1
 end
def uptoSmall : (H : Type) → List (DataW H) → Bool := fun _ ds => decide (uptoBulkAll ds ≤ 1048576)
def OpenSpec.upto (s : _root_.Go.ChangeSpec) : _root_.Go.OpenSpec := { _root_.Go.OpenSpec.ofChange s with cond := some uptoSmall }

/-- 'falseworklaw03.CivilNames', WHERE WHAT IT READS IS OF BULK AT MOST 1048576: true; the input reads as it did. -/
def civilNamesUptoRow : OpenClaim := { program := "ytfifollmpohcoaadoor", sum := "18f07996d9f8aab727c59ab4903be816523161e3852185fdd501b941ad07da7a", func := "falsework/falseworklaw03.CivilNames", spec := "civilNames", named := ["falsework/civil.lengths"], apart := false, laid := [("falsework/civil.lengths", laid_falsework_civil_lengths)], narrowed := true }
def CivilNamesUptoSaid : Prop := civilNamesUptoRow.holds Tryd.pinned (OpenSpec.upto civilNamesSpec)

/-- 'falseworklaw03.CivilTells', WHERE WHAT IT READS IS OF BULK AT MOST 1048576: true; the input reads as it did. -/
def civilTellsUptoRow : OpenClaim := { program := "ytfifollmpohcoaadoor", sum := "18f07996d9f8aab727c59ab4903be816523161e3852185fdd501b941ad07da7a", func := "falsework/falseworklaw03.CivilTells", spec := "civilTells", named := ["falsework/civil.lengths"], apart := false, laid := [("falsework/civil.lengths", laid_falsework_civil_lengths)], narrowed := true }
def CivilTellsUptoSaid : Prop := civilTellsUptoRow.holds Tryd.pinned (OpenSpec.upto civilTellsSpec)

/-- 'falseworklaw03.CivilCounts', WHERE WHAT IT READS IS OF BULK AT MOST 1048576: true; the input reads as it did. -/
def civilCountsUptoRow : OpenClaim := { program := "ytfifollmpohcoaadoor", sum := "18f07996d9f8aab727c59ab4903be816523161e3852185fdd501b941ad07da7a", func := "falsework/falseworklaw03.CivilCounts", spec := "civilCounts", named := ["falsework/civil.lengths"], apart := false, laid := [("falsework/civil.lengths", laid_falsework_civil_lengths)], narrowed := true }
def CivilCountsUptoSaid : Prop := civilCountsUptoRow.holds Tryd.pinned (OpenSpec.upto civilCountsSpec)

/-- 'falseworklaw03.CivilParses', WHERE WHAT IT READS IS OF BULK AT MOST 1048576: true; the input reads as it did. -/
def civilParsesUptoRow : OpenClaim := { program := "ytfifollmpohcoaadoor", sum := "18f07996d9f8aab727c59ab4903be816523161e3852185fdd501b941ad07da7a", func := "falsework/falseworklaw03.CivilParses", spec := "civilParses", named := ["falsework/civil.lengths"], apart := false, laid := [("falsework/civil.lengths", laid_falsework_civil_lengths)], narrowed := true }
def CivilParsesUptoSaid : Prop := civilParsesUptoRow.holds Tryd.pinned (OpenSpec.upto civilParsesSpec)

/-- 'falseworklaw03.CivilBack', WHERE WHAT IT READS IS OF BULK AT MOST 1048576: true; the input reads as it did. -/
def civilBackUptoRow : OpenClaim := { program := "ytfifollmpohcoaadoor", sum := "18f07996d9f8aab727c59ab4903be816523161e3852185fdd501b941ad07da7a", func := "falsework/falseworklaw03.CivilBack", spec := "civilBack", named := ["falsework/civil.lengths"], apart := false, laid := [("falsework/civil.lengths", laid_falsework_civil_lengths)], narrowed := true }
def CivilBackUptoSaid : Prop := civilBackUptoRow.holds Tryd.pinned (OpenSpec.upto civilBackSpec)

/-- 'falseworklaw03.CivilNext', WHERE WHAT IT READS IS OF BULK AT MOST 1048576: true; the input reads as it did. -/
def civilNextUptoRow : OpenClaim := { program := "ytfifollmpohcoaadoor", sum := "18f07996d9f8aab727c59ab4903be816523161e3852185fdd501b941ad07da7a", func := "falsework/falseworklaw03.CivilNext", spec := "civilNext", named := ["falsework/civil.lengths"], apart := false, laid := [("falsework/civil.lengths", laid_falsework_civil_lengths)], narrowed := true }
def CivilNextUptoSaid : Prop := civilNextUptoRow.holds Tryd.pinned (OpenSpec.upto civilNextSpec)

/-- 'falseworklaw03.CivilWeeks', WHERE WHAT IT READS IS OF BULK AT MOST 1048576: true; the input reads as it did. -/
def civilWeeksUptoRow : OpenClaim := { program := "ytfifollmpohcoaadoor", sum := "18f07996d9f8aab727c59ab4903be816523161e3852185fdd501b941ad07da7a", func := "falsework/falseworklaw03.CivilWeeks", spec := "civilWeeks", named := ["falsework/civil.lengths"], apart := false, laid := [("falsework/civil.lengths", laid_falsework_civil_lengths)], narrowed := true }
def CivilWeeksUptoSaid : Prop := civilWeeksUptoRow.holds Tryd.pinned (OpenSpec.upto civilWeeksSpec)

end Rows
end Go.Proofs.YtfifollmpohcoaaDoor
