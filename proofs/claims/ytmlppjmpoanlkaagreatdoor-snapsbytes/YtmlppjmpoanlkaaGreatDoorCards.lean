/-
  DERIVED. GIVEN WITH THE SEED: THE CARDS: each row of YtmlppjmpoanlkaaGreatDoorRows.lean that lists a variable, with what it lists TIED to the program's text (the seventh form; the later family's looks); each row that meets fmt, with fmt's text TOLD by the authors' own Lean function (tested against real Go, not proved from fmt's source: count such statements apart). THE CARD IS WHAT COUNTS. Prove the row's statement (the work); the ties are given (YtmlppjmpoanlkaaGreatDoorTie.lean); close each card by the builder's one call (the guide's Derived/Test/ToyasCard.lean, 'card_holds'). Laid BY PROGRAM, IN A SANDBOX (cutbox-door.mjs). By AI agents, Wed Nov 11 2026. No macro, syntax, notation, axiom, sorry.
-/
import Derived.Test.YtmlppjmpoanlkaaGreatDoorRows
import GoSem.ClaimSeven
namespace Go.Proofs.YtmlppjmpoanlkaaGreatDoor
namespace Rows

/-- THE TIED CARD OF 'hustingslaw07.SnapsBytes'. -/
def snapsBytesCard : Claim7 := { stood := { row := snapsBytesRow, standIns := [], harness := (true, "e1957a5b4cf47ad1bed172d86ebdbd375407b41ac992bf4c077e70e6327b2547"), looks := true }, kinds := [], alts := [], laidByText := true, laidKinds := [.data, .data, .data, .data], laidTests := true, laidLooks := .later }
def SnapsBytesCardSaid : Prop := Claim7.holds Tryz.pinned (.plain (OpenSpec.ofChange snapsBytesSpec)) snapsBytesCard

/-- THE TIED CARD OF 'hustingslaw07.SnapsNil'. -/
def snapsNilCard : Claim7 := { stood := { row := snapsNilRow, standIns := [], harness := (true, "e1957a5b4cf47ad1bed172d86ebdbd375407b41ac992bf4c077e70e6327b2547"), looks := true }, kinds := [], alts := [], laidByText := true, laidKinds := [.data, .data, .data, .data], laidTests := true, laidLooks := .later }
def SnapsNilCardSaid : Prop := Claim7.holds Tryz.pinned (.plain (OpenSpec.ofChange snapsNilSpec)) snapsNilCard

/-- THE TIED CARD OF 'hustingslaw07.SnapsLasts'. -/
def snapsLastsCard : Claim7 := { stood := { row := snapsLastsRow, standIns := [], harness := (true, "e1957a5b4cf47ad1bed172d86ebdbd375407b41ac992bf4c077e70e6327b2547"), looks := true }, kinds := [], alts := [], laidByText := true, laidKinds := [.data, .data, .data, .data], laidTests := true, laidLooks := .later }
def SnapsLastsCardSaid : Prop := Claim7.holds Tryz.pinned (.plain (OpenSpec.ofChange snapsLastsSpec)) snapsLastsCard

/-- THE TIED CARD OF 'hustingslaw07.SnapsNewest'. -/
def snapsNewestCard : Claim7 := { stood := { row := snapsNewestRow, standIns := [], harness := (true, "e1957a5b4cf47ad1bed172d86ebdbd375407b41ac992bf4c077e70e6327b2547"), looks := true }, kinds := [], alts := [], laidByText := true, laidKinds := [.data, .data, .data, .data], laidTests := true, laidLooks := .later }
def SnapsNewestCardSaid : Prop := Claim7.holds Tryz.pinned (.plain (OpenSpec.ofChange snapsNewestSpec)) snapsNewestCard

/-- THE SECOND FORM's CARD OF 'hustingslaw07.SnapsBytes'. -/
def snapsBytesUptoCard : Claim7 := { stood := { row := snapsBytesUptoRow, standIns := [], harness := (true, "e1957a5b4cf47ad1bed172d86ebdbd375407b41ac992bf4c077e70e6327b2547"), looks := true }, kinds := [], alts := [], laidByText := true, laidKinds := [.data, .data, .data, .data], laidTests := true, laidLooks := .later }
def SnapsBytesUptoCardSaid : Prop := Claim7.holds Tryz.pinned (.plain (OpenSpec.upto snapsBytesSpec)) snapsBytesUptoCard

/-- THE SECOND FORM's CARD OF 'hustingslaw07.SnapsNil'. -/
def snapsNilUptoCard : Claim7 := { stood := { row := snapsNilUptoRow, standIns := [], harness := (true, "e1957a5b4cf47ad1bed172d86ebdbd375407b41ac992bf4c077e70e6327b2547"), looks := true }, kinds := [], alts := [], laidByText := true, laidKinds := [.data, .data, .data, .data], laidTests := true, laidLooks := .later }
def SnapsNilUptoCardSaid : Prop := Claim7.holds Tryz.pinned (.plain (OpenSpec.upto snapsNilSpec)) snapsNilUptoCard

/-- THE SECOND FORM's CARD OF 'hustingslaw07.SnapsLasts'. -/
def snapsLastsUptoCard : Claim7 := { stood := { row := snapsLastsUptoRow, standIns := [], harness := (true, "e1957a5b4cf47ad1bed172d86ebdbd375407b41ac992bf4c077e70e6327b2547"), looks := true }, kinds := [], alts := [], laidByText := true, laidKinds := [.data, .data, .data, .data], laidTests := true, laidLooks := .later }
def SnapsLastsUptoCardSaid : Prop := Claim7.holds Tryz.pinned (.plain (OpenSpec.upto snapsLastsSpec)) snapsLastsUptoCard

/-- THE SECOND FORM's CARD OF 'hustingslaw07.SnapsNewest'. -/
def snapsNewestUptoCard : Claim7 := { stood := { row := snapsNewestUptoRow, standIns := [], harness := (true, "e1957a5b4cf47ad1bed172d86ebdbd375407b41ac992bf4c077e70e6327b2547"), looks := true }, kinds := [], alts := [], laidByText := true, laidKinds := [.data, .data, .data, .data], laidTests := true, laidLooks := .later }
def SnapsNewestUptoCardSaid : Prop := Claim7.holds Tryz.pinned (.plain (OpenSpec.upto snapsNewestSpec)) snapsNewestUptoCard
end Rows
end Go.Proofs.YtmlppjmpoanlkaaGreatDoor
