/-
  DERIVED. GIVEN WITH THE SEED: THE CARDS: each row of YtgjahnidjcfbiaaGreatDoorRows.lean that lists a variable, with what it lists TIED to the program's text (the seventh form; the later family's looks); each row that meets fmt, with fmt's text TOLD by the authors' own Lean function (tested against real Go, not proved from fmt's source: count such statements apart). THE CARD IS WHAT COUNTS. Prove the row's statement (the work); the ties are given (YtgjahnidjcfbiaaGreatDoorTie.lean); close each card by the builder's one call (the guide's Derived/Test/ToyasCard.lean, 'card_holds'). Laid BY PROGRAM, IN A SANDBOX (cutbox-door.mjs). By AI agents, Wed Nov 11 2026. No macro, syntax, notation, axiom, sorry.
-/
import Derived.Test.YtgjahnidjcfbiaaGreatDoorRows
import GoSem.ClaimSeven
namespace Go.Proofs.YtgjahnidjcfbiaaGreatDoor
namespace Rows

/-- THE TIED CARD OF 'almanaclaw06.IsetCalls'. -/
def isetCallsCard : Claim7 := { stood := { row := isetCallsRow, standIns := [], harness := (true, "597c2c7c5e7613a99593ab205a7a594e54b1f56cf4cc0c48565e651db6b6b137"), looks := true }, kinds := [], alts := [], laidByText := true, laidKinds := [.data, .data, .data, .sentinel, .sentinel], laidTests := true, laidLooks := .later }
def IsetCallsCardSaid : Prop := Claim7.holds Tryz.pinned (.plain (OpenSpec.ofChange isetCallsSpec)) isetCallsCard

/-- THE SECOND FORM's CARD OF 'almanaclaw06.IsetCalls'. -/
def isetCallsUptoCard : Claim7 := { stood := { row := isetCallsUptoRow, standIns := [], harness := (true, "597c2c7c5e7613a99593ab205a7a594e54b1f56cf4cc0c48565e651db6b6b137"), looks := true }, kinds := [], alts := [], laidByText := true, laidKinds := [.data, .data, .data, .sentinel, .sentinel], laidTests := true, laidLooks := .later }
def IsetCallsUptoCardSaid : Prop := Claim7.holds Tryz.pinned (.plain (OpenSpec.upto isetCallsSpec)) isetCallsUptoCard
end Rows
end Go.Proofs.YtgjahnidjcfbiaaGreatDoor
