/-
  DERIVED. GIVEN WITH THE SEED: THE CARDS: each row of YtijhfjehdpgjmaaDoorRows.lean that lists a variable, with what it lists TIED to the program's text (the seventh form; the later family's looks); each row that meets fmt, with fmt's text TOLD by the authors' own Lean function (tested against real Go, not proved from fmt's source: count such statements apart). THE CARD IS WHAT COUNTS. Prove the row's statement (the work); the ties are given (YtijhfjehdpgjmaaDoorTie.lean); close each card by the builder's one call (the guide's Derived/Test/ToyasCard.lean, 'card_holds'). Laid BY PROGRAM, IN A SANDBOX (cutbox-door.mjs). By AI agents, Wed Nov 11 2026. No macro, syntax, notation, axiom, sorry.
-/
import Derived.Test.YtijhfjehdpgjmaaDoorRows
import GoSem.ClaimSeven
namespace Go.Proofs.YtijhfjehdpgjmaaDoor
namespace Rows

/-- THE TIED CARD OF 'falseworklaw04.CalendarNames'. -/
def calendarNamesCard : Claim7 := { stood := { row := calendarNamesRow, standIns := [], harness := (true, "19fdcf900fcbb1a6ea9390be37548f0404216b42880ed45982b22c567876498a"), looks := false }, kinds := [], alts := [], laidByText := true, laidKinds := [.data], laidTests := true, laidLooks := .later }
def CalendarNamesCardSaid : Prop := Claim7.holds Tryd.pinned (.plain (OpenSpec.ofChange calendarNamesSpec)) calendarNamesCard

/-- THE TIED CARD OF 'falseworklaw04.CalendarMonths'. -/
def calendarMonthsCard : Claim7 := { stood := { row := calendarMonthsRow, standIns := [], harness := (true, "19fdcf900fcbb1a6ea9390be37548f0404216b42880ed45982b22c567876498a"), looks := false }, kinds := [], alts := [], laidByText := true, laidKinds := [.data], laidTests := true, laidLooks := .later }
def CalendarMonthsCardSaid : Prop := Claim7.holds Tryd.pinned (.plain (OpenSpec.ofChange calendarMonthsSpec)) calendarMonthsCard

/-- THE TIED CARD OF 'falseworklaw04.CalendarCounts'. -/
def calendarCountsCard : Claim7 := { stood := { row := calendarCountsRow, standIns := [], harness := (true, "19fdcf900fcbb1a6ea9390be37548f0404216b42880ed45982b22c567876498a"), looks := false }, kinds := [], alts := [], laidByText := true, laidKinds := [.data], laidTests := true, laidLooks := .later }
def CalendarCountsCardSaid : Prop := Claim7.holds Tryd.pinned (.plain (OpenSpec.ofChange calendarCountsSpec)) calendarCountsCard

/-- THE TIED CARD OF 'falseworklaw04.CalendarRolls'. -/
def calendarRollsCard : Claim7 := { stood := { row := calendarRollsRow, standIns := [], harness := (true, "19fdcf900fcbb1a6ea9390be37548f0404216b42880ed45982b22c567876498a"), looks := false }, kinds := [], alts := [], laidByText := true, laidKinds := [.data], laidTests := true, laidLooks := .later }
def CalendarRollsCardSaid : Prop := Claim7.holds Tryd.pinned (.plain (OpenSpec.ofChange calendarRollsSpec)) calendarRollsCard

/-- THE TIED CARD OF 'falseworklaw04.CalendarBetween'. -/
def calendarBetweenCard : Claim7 := { stood := { row := calendarBetweenRow, standIns := [], harness := (true, "19fdcf900fcbb1a6ea9390be37548f0404216b42880ed45982b22c567876498a"), looks := false }, kinds := [], alts := [], laidByText := true, laidKinds := [.data], laidTests := true, laidLooks := .later }
def CalendarBetweenCardSaid : Prop := Claim7.holds Tryd.pinned (.plain (OpenSpec.ofChange calendarBetweenSpec)) calendarBetweenCard

/-- THE TIED CARD OF 'falseworklaw04.CalendarTwelve'. -/
def calendarTwelveCard : Claim7 := { stood := { row := calendarTwelveRow, standIns := [], harness := (true, "19fdcf900fcbb1a6ea9390be37548f0404216b42880ed45982b22c567876498a"), looks := false }, kinds := [], alts := [], laidByText := true, laidKinds := [.data], laidTests := true, laidLooks := .later }
def CalendarTwelveCardSaid : Prop := Claim7.holds Tryd.pinned (.plain (OpenSpec.ofChange calendarTwelveSpec)) calendarTwelveCard

/-- THE TIED CARD OF 'falseworklaw04.CalendarNear'. -/
def calendarNearCard : Claim7 := { stood := { row := calendarNearRow, standIns := [], harness := (true, "19fdcf900fcbb1a6ea9390be37548f0404216b42880ed45982b22c567876498a"), looks := false }, kinds := [], alts := [], laidByText := true, laidKinds := [.data], laidTests := true, laidLooks := .later }
def CalendarNearCardSaid : Prop := Claim7.holds Tryd.pinned (.plain (OpenSpec.ofChange calendarNearSpec)) calendarNearCard

/-- THE SECOND FORM's CARD OF 'falseworklaw04.CalendarNames'. -/
def calendarNamesUptoCard : Claim7 := { stood := { row := calendarNamesUptoRow, standIns := [], harness := (true, "19fdcf900fcbb1a6ea9390be37548f0404216b42880ed45982b22c567876498a"), looks := false }, kinds := [], alts := [], laidByText := true, laidKinds := [.data], laidTests := true, laidLooks := .later }
def CalendarNamesUptoCardSaid : Prop := Claim7.holds Tryd.pinned (.plain (OpenSpec.upto calendarNamesSpec)) calendarNamesUptoCard

/-- THE SECOND FORM's CARD OF 'falseworklaw04.CalendarMonths'. -/
def calendarMonthsUptoCard : Claim7 := { stood := { row := calendarMonthsUptoRow, standIns := [], harness := (true, "19fdcf900fcbb1a6ea9390be37548f0404216b42880ed45982b22c567876498a"), looks := false }, kinds := [], alts := [], laidByText := true, laidKinds := [.data], laidTests := true, laidLooks := .later }
def CalendarMonthsUptoCardSaid : Prop := Claim7.holds Tryd.pinned (.plain (OpenSpec.upto calendarMonthsSpec)) calendarMonthsUptoCard

/-- THE SECOND FORM's CARD OF 'falseworklaw04.CalendarCounts'. -/
def calendarCountsUptoCard : Claim7 := { stood := { row := calendarCountsUptoRow, standIns := [], harness := (true, "19fdcf900fcbb1a6ea9390be37548f0404216b42880ed45982b22c567876498a"), looks := false }, kinds := [], alts := [], laidByText := true, laidKinds := [.data], laidTests := true, laidLooks := .later }
def CalendarCountsUptoCardSaid : Prop := Claim7.holds Tryd.pinned (.plain (OpenSpec.upto calendarCountsSpec)) calendarCountsUptoCard

/-- THE SECOND FORM's CARD OF 'falseworklaw04.CalendarRolls'. -/
def calendarRollsUptoCard : Claim7 := { stood := { row := calendarRollsUptoRow, standIns := [], harness := (true, "19fdcf900fcbb1a6ea9390be37548f0404216b42880ed45982b22c567876498a"), looks := false }, kinds := [], alts := [], laidByText := true, laidKinds := [.data], laidTests := true, laidLooks := .later }
def CalendarRollsUptoCardSaid : Prop := Claim7.holds Tryd.pinned (.plain (OpenSpec.upto calendarRollsSpec)) calendarRollsUptoCard

/-- THE SECOND FORM's CARD OF 'falseworklaw04.CalendarBetween'. -/
def calendarBetweenUptoCard : Claim7 := { stood := { row := calendarBetweenUptoRow, standIns := [], harness := (true, "19fdcf900fcbb1a6ea9390be37548f0404216b42880ed45982b22c567876498a"), looks := false }, kinds := [], alts := [], laidByText := true, laidKinds := [.data], laidTests := true, laidLooks := .later }
def CalendarBetweenUptoCardSaid : Prop := Claim7.holds Tryd.pinned (.plain (OpenSpec.upto calendarBetweenSpec)) calendarBetweenUptoCard

/-- THE SECOND FORM's CARD OF 'falseworklaw04.CalendarTwelve'. -/
def calendarTwelveUptoCard : Claim7 := { stood := { row := calendarTwelveUptoRow, standIns := [], harness := (true, "19fdcf900fcbb1a6ea9390be37548f0404216b42880ed45982b22c567876498a"), looks := false }, kinds := [], alts := [], laidByText := true, laidKinds := [.data], laidTests := true, laidLooks := .later }
def CalendarTwelveUptoCardSaid : Prop := Claim7.holds Tryd.pinned (.plain (OpenSpec.upto calendarTwelveSpec)) calendarTwelveUptoCard

/-- THE SECOND FORM's CARD OF 'falseworklaw04.CalendarNear'. -/
def calendarNearUptoCard : Claim7 := { stood := { row := calendarNearUptoRow, standIns := [], harness := (true, "19fdcf900fcbb1a6ea9390be37548f0404216b42880ed45982b22c567876498a"), looks := false }, kinds := [], alts := [], laidByText := true, laidKinds := [.data], laidTests := true, laidLooks := .later }
def CalendarNearUptoCardSaid : Prop := Claim7.holds Tryd.pinned (.plain (OpenSpec.upto calendarNearSpec)) calendarNearUptoCard
end Rows
end Go.Proofs.YtijhfjehdpgjmaaDoor
